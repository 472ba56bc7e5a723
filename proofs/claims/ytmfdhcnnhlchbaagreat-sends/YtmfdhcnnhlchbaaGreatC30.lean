import Derived.Test.YtmfdhcnnhlchbaaGreatC29
import Derived.Test.YtmfdhcnnhlchbaaGreatC01
import Derived.Test.YtmfdhcnnhlchbaaGreatC20
import Derived.Deep.QuietTactic
import Derived.BigQuiet
namespace Go.Proofs.YtmfdhcnnhlchbaaGreat
open Go.RowKit Go.Maps

theorem fund_done {lab : Nat → Nat} {l : Nat} {w w' : World} {x : Nat} {pre post : List Value} {S S' : Ch} {K : Hd} {a : DAt} {B : Nat} (h : DevCh lab l w x pre post S K a B) (hl : l ≠ 0) (t : Turned x (some a.bf) none w w')
    (e1 : S'.hd = S.hd) (e2 : S'.nextSend = S.nextSend) (e3 : S'.heads = S.heads) (ff : Int × Int → Option Value) (nf : Nat)
    (hx : w'.heap[x]? = some (.cells (pre ++ dchCells S' K { a with ff := ff, nf := nf } ++ post).toArray tBr (0, 0))) (hM : MapIs Tryz.prog tHold encH w' a.bf ff nf) (hf : FundsOk ff S') (hn : nf ≤ B + 1) :
    DevTo lab l w x pre post S' K (B + 1) w' := by
  obtain ⟨⟨n1, n2, n3⟩, ⟨n4, n5⟩, n6⟩ := h.apart
  have g := h.good.mono (Nat.le_succ B)
  refine dev_build (a' := { a with ff := ff, nf := nf }) h hl t.os t.tape t.output t.size (t.keep (fun k e => by cases e; exact h.lmap.2.1) (fun k e => by cases e)) hx ⟨rfl, rfl, rfl, rfl⟩ ?_ hM ?_ ?_ ?_ ?_ ?_ ?_ ?_ ?_ ?_ ?_ ?_ ?_ hf ?_ (h.goodK.mono (Nat.le_succ B))
  · rw [e1]; exact t.map h.blk h.pend (by simp; exact n1) (by simp)
  · exact t.map h.blk h.kpk (by simp; exact fun e => n4 e.symm) (by simp)
  · exact t.map h.blk h.kan (by simp; exact fun e => n5 e.symm) (by simp)
  · exact t.row h.blk h.sent (by decide) (fun _ => map_ne_row h.fund h.sent) (fun _ _ => by simp)
  · exact fun k e _ => h.lsent k e
  · exact t.row h.blk h.gone (by decide) (fun _ => map_ne_row h.fund h.gone) (fun _ _ => by simp)
  · exact fun k e _ => h.lgone k e
  · exact t.row h.blk h.ans (by decide) (fun _ => map_ne_row h.fund h.ans) (fun _ _ => by simp)
  · exact fun k e _ => h.lans k e
  · exact t.row h.blk h.heads (by decide) (fun _ => map_ne_row h.fund h.heads) (fun _ _ => by simp)
  · exact fun k e _ => h.lheads k e
  · exact fun y hy => .inl hy
  · rw [e3]; exact h.hsS
  · obtain ⟨g1, g2, g3, g4, g6, g7, g8, g9, g10, g11, g12, g13, g14, g15, g16⟩ := g
    exact ⟨by rw [e1]; exact g1, by rw [e2]; exact g2, by rw [e1, e2]; exact g3, by rw [e2]; exact g4, by rw [e3]; exact g6, by rw [e3]; exact g7, g8, g9, g10, hn, by rw [e1]; exact g12, g13, g14, g15, g16⟩

theorem get_put {S : Ch} {i j : Nat} {v : Int} (hi : i < 6) (hj : j < 6) : (S.put i v).get j = if j = i then v else S.get j := by
  have e : i = 0 ∨ i = 1 ∨ i = 2 ∨ i = 3 ∨ i = 4 ∨ i = 5 := by omega
  have e' : j = 0 ∨ j = 1 ∨ j = 2 ∨ j = 3 ∨ j = 4 ∨ j = 5 := by omega
  rcases e with rfl | rfl | rfl | rfl | rfl | rfl <;> rcases e' with rfl | rfl | rfl | rfl | rfl | rfl <;> simp [Ch.put, Ch.get]

theorem hasAt_lt {u c : Int} (hu : 0 ≤ u ∧ u ≤ 2) (hc : 0 ≤ c ∧ c ≤ 1) : hasAt u c < 6 := by unfold hasAt; omega

theorem hasAt_inj {u c u' c' : Int} (hu : 0 ≤ u ∧ u ≤ 2) (hc : 0 ≤ c ∧ c ≤ 1) (hu' : 0 ≤ u' ∧ u' ≤ 2) (hc' : 0 ≤ c' ∧ c' ≤ 1) (h : hasAt u' c' = hasAt u c) : u' = u ∧ c' = c := by
  unfold hasAt at h
  omega

theorem funds_put {f g : Int × Int → Option Value} {S S' : Ch} {u c v : Int} (h : FundsOk f S) (hu : 0 ≤ u ∧ u ≤ 2) (hc : 0 ≤ c ∧ c ≤ 1) (hg : ∀ k, k ≠ (u, c) → g k = f k) (hv : (g (u, c)).getD (.int .u64 0) = .int .u64 v) (hS : ∀ j, S'.get j = (S.put (hasAt u c) v).get j) : FundsOk g S' := by
  intro u' c'
  by_cases e : (u', c') = (u, c)
  · cases e
    rw [hv, if_pos ⟨hu, hc⟩, hS, get_put (hasAt_lt hu hc) (hasAt_lt hu hc), if_pos rfl]
  · rw [hg _ e, h u' c']
    split
    · rename_i hr
      rw [hS, get_put (hasAt_lt hu hc) (hasAt_lt hr.1 hr.2), if_neg]
      exact fun e1 => e (by obtain ⟨e2, e3⟩ := hasAt_inj hu hc hr.1 hr.2 e1; rw [e2, e3])
    · rfl

set_option maxRecDepth 100000 in
set_option maxHeartbeats 800000 in
theorem give_any {lab : Nat → Nat} {l : Nat} {w : World} {x q : Nat} {pre post : List Value} {S : Ch} {K : Hd} {a : DAt} {B : Nat} (h : DevCh lab l w x pre post S K a B) (hl : l ≠ 0) (hq : pre.length = q) (hB : B ≤ 10000000) {u c n : Int} (hu : 0 ≤ u ∧ u ≤ 2) (hc : 0 ≤ c ∧ c ≤ 1) :
    Calls Tryz.prog 86 #[.pointer (some ⟨x, q, none⟩), .agg #[.int .i64 u, .int .i64 c], .int .u64 n] w fun e w' => e = .returned (.tuple #[]) ∧ DevTo lab l w x pre post (S.credit u c n) K (B + 1) w' := by
  have hxl : x < w.heap.size := blk_lt h.blk
  obtain ⟨kl, hkl⟩ := keyH (u := u) (c := c) (by omega) (by omega) (by omega) (by omega)
  obtain ⟨w1, hw1⟩ : ∃ w1 : World, w1 = w.alloc (.cells #[.int .i64 u, .int .i64 c] tHold) := ⟨_, rfl⟩
  have g1 : w.grownBy w1 none := by rw [hw1]; exact World.grownBy_alloc _ _ _
  have hX1 : w1.heap[w.heap.size]? = some (.cells #[.int .i64 u, .int .i64 c] tHold (0, 0)) := by rw [hw1]; exact heap_alloc_new w _
  have hB1 := (g1.block x hxl (by simp)).trans h.blk
  have hM1 : MapIs Tryz.prog tHold encH w1.drew a.bf a.ff a.nf := (h.fund.keep (g1.block _ h.fund.lt (by simp))).keep rfl
  have hlf := h.good.lf
  have hlook := hM1.look lawH Tryz.underlying89 (Tryz.zeroValue26 w1.drew) hkl
  rw [h.fok u c, if_pos ⟨hu, hc⟩] at hlook
  obtain ⟨st, w2, hent, hM2, ht2, hst0⟩ := hM1.entry encH_inj lawHk Tryz.underlying89 Tryz.zeroValue26 (by unfold maxLen; omega) hkl
  have hlook2 := hM2.look lawH Tryz.underlying89 (Tryz.zeroValue26 w2) hkl
  rw [h.fok u c, if_pos ⟨hu, hc⟩] at hent hlook2
  simp only [putF, if_true, Option.getD_some] at hlook2
  obtain ⟨G, hG⟩ : ∃ G, S.get (hasAt u c) = G := ⟨_, rfl⟩
  rw [hG] at hlook hlook2 hent
  have HG : Hid (S.get (hasAt u c) = G) := hG
  clear hG
  obtain ⟨w3, hst, hM3, ht3⟩ := hst0 (.int .u64 (IntKind.u64.wrap (G + n)))
  clear hst0
  simp only [encH] at hlook hent hlook2
  have hbx : a.bf ≠ x := map_ne_blk h.fund h.blk
  have hbX : w.heap.size ≠ a.bf := by have := h.fund.lt; omega
  have hB2 := (ht2.grown.block x (blk_lt hB1) (by simp; exact fun e => hbx e.symm)).trans hB1
  have hX2 := (ht2.grown.block w.heap.size (blk_lt hX1) (by simp; exact hbX)).trans hX1
  have hB3 := (ht3.grown.block x (blk_lt hB1) (by simp; exact fun e => hbx e.symm)).trans hB1
  have hX3 := (ht3.grown.block w.heap.size (blk_lt hX1) (by simp; exact hbX)).trans hX1
  obtain ⟨c0, c1, c2, c3, c4, c5, c6, c7, c8, c9, c10, c11, c12, c13, c14, c15, c16, c17, c18, c19, c20, c21, cf⟩ := dch_cells hB1 hq
  obtain ⟨x0, x1, xf⟩ : w1.cell? ⟨w.heap.size, 0, none⟩ = some (.int .i64 u) ∧ w1.cell? ⟨w.heap.size, 1, none⟩ = some (.int .i64 c) ∧ (∀ k, w1.frozen? ⟨w.heap.size, k, none⟩ = false) := ⟨by simp [World.cell?, hX1], by simp [World.cell?, hX1], blkq_free hX1⟩
  go_enter Tryz.func86, Tryz.ntmps86
  go_wp2_with fail
  rw [← hw1]
  clear hw1
  go_region
  clear c0 c1 c2 c3 c4 c5 c6 c7 c8 c9 c10 c11 c12 c13 c14 c15 c16 c17 c18 c19 c20 c21 cf x0 x1 xf hlook hlook2 hent hst
  obtain ⟨c0, c1, c2, c3, c4, c5, c6, c7, c8, c9, c10, c11, c12, c13, c14, c15, c16, c17, c18, c19, c20, c21, cf⟩ := dch_cells hB3 hq
  obtain ⟨x0, x1, xf⟩ : w3.cell? ⟨w.heap.size, 0, none⟩ = some (.int .i64 u) ∧ w3.cell? ⟨w.heap.size, 1, none⟩ = some (.int .i64 c) ∧ (∀ k, w3.frozen? ⟨w.heap.size, k, none⟩ = false) := ⟨by simp [World.cell?, hX3], by simp [World.cell?, hX3], blkq_free hX3⟩
  go_wp2_with fail
  have hcn : (c == S.n) = true ∨ (c == S.n) = false := by cases (c == S.n) <;> simp
  go_quiet (fail)
  have hnf : putN a.ff (u, c) a.nf ≤ B + 1 := by unfold putN; split <;> omega
  have hfo : ∀ S' : Ch, (∀ j, S'.get j = (S.put (hasAt u c) (IntKind.u64.wrap (G + n))).get j) → FundsOk (putF a.ff (u, c) (.int .u64 (IntKind.u64.wrap (G + n)))) S' := fun S' hS => funds_put h.fok hu hc (fun k hk => by simp [putF, hk]) (by simp [putF]) hS
  have ht : ∀ N v j, Turned x (some a.bf) none w ((w3.drewN N).setCell ⟨x, j, none⟩ v) := fun N v j => by
    have t1 : Turned x (some a.bf) none w w3 := (turned_n g1).trans (turned_drew (turned_m ht3.grown)) (fun k e => .inl e) (fun k e => .inl e)
    refine t1.trans (turned_x (grown_set (grown_drewN (grown_refl w3 _) N) _ _ (.inl rfl))) (fun k e => .inl e) (fun k e => .inl e)
  rcases hcn with hcn | hcn
  · go_wp2_with fail
    go_end0
    have e0 : c = S.n := by simpa using hcn
    refine ⟨rfl, fund_done h hl (ht _ _ _) rfl rfl rfl _ _ ?_ ?_ (hfo _ (fun j => ?_)) hnf⟩
    · have := blkq_set (w := w3.drewN nq) (by rw [drewN_heap]; exact hB3) hq 11 (by simp [dchCells]) (.int .u64 (IntKind.u64.wrap (S.locked - n)))
      simpa [dchCells, Ch.credit, Ch.put, e0] using this
    · exact hM3.keep (by rw [setCell_other _ _ _ hbx, drewN_heap])
    · rw [← HG.out]; rfl
  · go_wp2_with fail
    go_end0
    have e0 : ¬ c = S.n := by simpa using hcn
    refine ⟨rfl, fund_done h hl (ht _ _ _) rfl rfl rfl _ _ ?_ ?_ (hfo _ (fun j => ?_)) hnf⟩
    · have := blkq_set (w := w3.drewN nq) (by rw [drewN_heap]; exact hB3) hq 12 (by simp [dchCells]) (.int .u64 (IntKind.u64.wrap (S.about + n)))
      simpa [dchCells, Ch.credit, Ch.put, e0] using this
    · exact hM3.keep (by rw [setCell_other _ _ _ hbx, drewN_heap])
    · rw [← HG.out]; rfl

end Go.Proofs.YtmfdhcnnhlchbaaGreat

namespace Go.Proofs.YtmfdhcnnhlchbaaGreat
open Go.RowKit Go.Maps

set_option maxRecDepth 100000 in
set_option maxHeartbeats 800000 in
theorem take_any {lab : Nat → Nat} {l : Nat} {w : World} {x q : Nat} {pre post : List Value} {S : Ch} {K : Hd} {a : DAt} {B : Nat} (h : DevCh lab l w x pre post S K a B) (hl : l ≠ 0) (hq : pre.length = q) (hB : B ≤ 10000000) {p : Pk} (hu : 0 ≤ p.src ∧ p.src ≤ 2) (hc : 0 ≤ p.coin ∧ p.coin ≤ 1) :
    Calls Tryz.prog 80 #[.pointer (some ⟨x, q, none⟩), .agg #[.int .i64 p.src, .int .i64 p.coin], .int .u64 p.amount] w fun e w' => e = .returned (.tuple #[]) ∧ DevTo lab l w x pre post (S.moved p) K (B + 1) w' := by
  have hxl : x < w.heap.size := blk_lt h.blk
  obtain ⟨kl, hkl⟩ := keyH (u := p.src) (c := p.coin) (by omega) (by omega) (by omega) (by omega)
  obtain ⟨w1, hw1⟩ : ∃ w1 : World, w1 = w.alloc (.cells #[.int .i64 p.src, .int .i64 p.coin] tHold) := ⟨_, rfl⟩
  have g1 : w.grownBy w1 none := by rw [hw1]; exact World.grownBy_alloc _ _ _
  have hX1 : w1.heap[w.heap.size]? = some (.cells #[.int .i64 p.src, .int .i64 p.coin] tHold (0, 0)) := by rw [hw1]; exact heap_alloc_new w _
  have hB1 := (g1.block x hxl (by simp)).trans h.blk
  have hM0 : MapIs Tryz.prog tHold encH w1.drew a.bf a.ff a.nf := (h.fund.keep (g1.block _ h.fund.lt (by simp))).keep rfl
  have hM1 : MapIs Tryz.prog tHold encH w1.drew.drew a.bf a.ff a.nf := hM0.keep rfl
  have hlf := h.good.lf
  have hlook0 := hM0.look lawH Tryz.underlying89 (Tryz.zeroValue26 w1.drew) hkl
  have hlook := hM1.look lawH Tryz.underlying89 (Tryz.zeroValue26 w1.drew.drew) hkl
  rw [h.fok p.src p.coin, if_pos ⟨hu, hc⟩] at hlook hlook0
  obtain ⟨st, w2, hent, hM2, ht2, hst0⟩ := hM1.entry encH_inj lawHk Tryz.underlying89 Tryz.zeroValue26 (by unfold maxLen; omega) hkl
  have hlook2 := hM2.look lawH Tryz.underlying89 (Tryz.zeroValue26 w2) hkl
  rw [h.fok p.src p.coin, if_pos ⟨hu, hc⟩] at hent hlook2
  simp only [putF, if_true, Option.getD_some] at hlook2
  obtain ⟨G, hG⟩ : ∃ G, S.get (hasAt p.src p.coin) = G := ⟨_, rfl⟩
  rw [hG] at hlook hlook2 hent hlook0
  have HG : Hid (S.get (hasAt p.src p.coin) = G) := hG
  clear hG
  obtain ⟨w3, hst, hM3, ht3⟩ := hst0 (.int .u64 (IntKind.u64.wrap (G - p.amount)))
  clear hst0
  obtain ⟨w4, hdel, hM4, ht4⟩ := hM1.drop encH_inj lawH Tryz.underlying89 hkl 0
  simp only [encH] at hlook hent hlook2 hlook0 hdel
  have hbx : a.bf ≠ x := map_ne_blk h.fund h.blk
  have hbX : w.heap.size ≠ a.bf := by have := h.fund.lt; omega
  have hB2 := (ht2.grown.block x (blk_lt hB1) (by simp; exact fun e => hbx e.symm)).trans hB1
  have hX2 := (ht2.grown.block w.heap.size (blk_lt hX1) (by simp; exact hbX)).trans hX1
  have hB3 := (ht3.grown.block x (blk_lt hB1) (by simp; exact fun e => hbx e.symm)).trans hB1
  have hX3 := (ht3.grown.block w.heap.size (blk_lt hX1) (by simp; exact hbX)).trans hX1
  have hB4 := (ht4.grown.block x (blk_lt hB1) (by simp; exact fun e => hbx e.symm)).trans hB1
  have hX4 := (ht4.grown.block w.heap.size (blk_lt hX1) (by simp; exact hbX)).trans hX1
  obtain ⟨c0, c1, c2, c3, c4, c5, c6, c7, c8, c9, c10, c11, c12, c13, c14, c15, c16, c17, c18, c19, c20, c21, cf⟩ := dch_cells hB1 hq
  obtain ⟨x0, x1, xf⟩ : w1.cell? ⟨w.heap.size, 0, none⟩ = some (.int .i64 p.src) ∧ w1.cell? ⟨w.heap.size, 1, none⟩ = some (.int .i64 p.coin) ∧ (∀ k, w1.frozen? ⟨w.heap.size, k, none⟩ = false) := ⟨by simp [World.cell?, hX1], by simp [World.cell?, hX1], blkq_free hX1⟩
  go_enter Tryz.func80, Tryz.ntmps80
  go_wp2_with fail
  rw [← hw1]
  clear hw1
  go_region
  have hcn : (p.coin == S.n) = true ∨ (p.coin == S.n) = false := by cases (p.coin == S.n) <;> simp
  have hga : (G == p.amount) = true ∨ (G == p.amount) = false := by cases (G == p.amount) <;> simp
  have ht : ∀ W : World, w1.drew.drew.mapTurned W a.bf → ∀ N v j, Turned x (some a.bf) none w ((W.drewN N).setCell ⟨x, j, none⟩ v) := fun W hW N v j => by
    have t1 : Turned x (some a.bf) none w W := (turned_n g1).trans (turned_drew (turned_drew (turned_m hW.grown))) (fun k e => .inl e) (fun k e => .inl e)
    exact t1.trans (turned_x (grown_set (grown_drewN (grown_refl W _) N) _ _ (.inl rfl))) (fun k e => .inl e) (fun k e => .inl e)
  have hnf3 : putN a.ff (p.src, p.coin) a.nf ≤ B + 1 := by unfold putN; split <;> omega
  have hnf4 : delN a.ff (p.src, p.coin) a.nf ≤ B + 1 := by unfold delN; split <;> omega
  have hfo3 : ∀ S' : Ch, (∀ j, S'.get j = (S.put (hasAt p.src p.coin) (IntKind.u64.wrap (G - p.amount))).get j) → FundsOk (putF a.ff (p.src, p.coin) (.int .u64 (IntKind.u64.wrap (G - p.amount)))) S' := fun S' hS => funds_put h.fok hu hc (fun k hk => by simp [putF, hk]) (by simp [putF]) hS
  rcases hga with hga | hga
  · have hfo4 : ∀ S' : Ch, (∀ j, S'.get j = (S.put (hasAt p.src p.coin) (IntKind.u64.wrap (G - p.amount))).get j) → FundsOk (delF a.ff (p.src, p.coin)) S' := fun S' hS => funds_put h.fok hu hc (fun k hk => by simp [delF, hk]) (by
      have e : G = p.amount := by simpa using hga
      simp [delF, e, IntKind.wrap, IntKind.bits, IntKind.signed]) hS
    go_wp2_with fail
    go_region
    clear c0 c1 c2 c3 c4 c5 c6 c7 c8 c9 c10 c11 c12 c13 c14 c15 c16 c17 c18 c19 c20 c21 cf x0 x1 xf hlook hlook2 hent hst hlook0 hdel
    obtain ⟨c0, c1, c2, c3, c4, c5, c6, c7, c8, c9, c10, c11, c12, c13, c14, c15, c16, c17, c18, c19, c20, c21, cf⟩ := dch_cells hB4 hq
    obtain ⟨x0, x1, xf⟩ : w4.cell? ⟨w.heap.size, 0, none⟩ = some (.int .i64 p.src) ∧ w4.cell? ⟨w.heap.size, 1, none⟩ = some (.int .i64 p.coin) ∧ (∀ k, w4.frozen? ⟨w.heap.size, k, none⟩ = false) := ⟨by simp [World.cell?, hX4], by simp [World.cell?, hX4], blkq_free hX4⟩
    go_wp2_with fail
    go_quiet (fail)
    rcases hcn with hcn | hcn
    · go_wp2_with fail
      go_end0
      have e0 : p.coin = S.n := by simpa using hcn
      refine ⟨rfl, fund_done h hl (ht w4 ht4 _ _ _) rfl rfl rfl _ _ ?_ ?_ (hfo4 _ (fun j => ?_)) hnf4⟩
      · have := blkq_set (w := w4.drewN nq) (by rw [drewN_heap]; exact hB4) hq 11 (by simp [dchCells]) (.int .u64 (IntKind.u64.wrap (S.locked + p.amount)))
        simpa [dchCells, Ch.moved, Ch.spent, Ch.put, e0] using this
      · exact hM4.keep (by rw [setCell_other _ _ _ hbx, drewN_heap])
      · rw [← HG.out]; rfl
    · go_wp2_with fail
      go_end0
      have e0 : ¬ p.coin = S.n := by simpa using hcn
      refine ⟨rfl, fund_done h hl (ht w4 ht4 _ _ _) rfl rfl rfl _ _ ?_ ?_ (hfo4 _ (fun j => ?_)) hnf4⟩
      · have := blkq_set (w := w4.drewN nq) (by rw [drewN_heap]; exact hB4) hq 12 (by simp [dchCells]) (.int .u64 (IntKind.u64.wrap (S.about - p.amount)))
        simpa [dchCells, Ch.moved, Ch.spent, Ch.put, e0] using this
      · exact hM4.keep (by rw [setCell_other _ _ _ hbx, drewN_heap])
      · rw [← HG.out]; rfl
  · go_wp2_with fail
    go_region
    clear c0 c1 c2 c3 c4 c5 c6 c7 c8 c9 c10 c11 c12 c13 c14 c15 c16 c17 c18 c19 c20 c21 cf x0 x1 xf hlook hlook2 hent hst hlook0 hdel
    obtain ⟨c0, c1, c2, c3, c4, c5, c6, c7, c8, c9, c10, c11, c12, c13, c14, c15, c16, c17, c18, c19, c20, c21, cf⟩ := dch_cells hB3 hq
    obtain ⟨x0, x1, xf⟩ : w3.cell? ⟨w.heap.size, 0, none⟩ = some (.int .i64 p.src) ∧ w3.cell? ⟨w.heap.size, 1, none⟩ = some (.int .i64 p.coin) ∧ (∀ k, w3.frozen? ⟨w.heap.size, k, none⟩ = false) := ⟨by simp [World.cell?, hX3], by simp [World.cell?, hX3], blkq_free hX3⟩
    go_wp2_with fail
    go_quiet (fail)
    rcases hcn with hcn | hcn
    · go_wp2_with fail
      go_end0
      have e0 : p.coin = S.n := by simpa using hcn
      refine ⟨rfl, fund_done h hl (ht w3 ht3 _ _ _) rfl rfl rfl _ _ ?_ ?_ (hfo3 _ (fun j => ?_)) hnf3⟩
      · have := blkq_set (w := w3.drewN nq) (by rw [drewN_heap]; exact hB3) hq 11 (by simp [dchCells]) (.int .u64 (IntKind.u64.wrap (S.locked + p.amount)))
        simpa [dchCells, Ch.moved, Ch.spent, Ch.put, e0] using this
      · exact hM3.keep (by rw [setCell_other _ _ _ hbx, drewN_heap])
      · rw [← HG.out]; rfl
    · go_wp2_with fail
      go_end0
      have e0 : ¬ p.coin = S.n := by simpa using hcn
      refine ⟨rfl, fund_done h hl (ht w3 ht3 _ _ _) rfl rfl rfl _ _ ?_ ?_ (hfo3 _ (fun j => ?_)) hnf3⟩
      · have := blkq_set (w := w3.drewN nq) (by rw [drewN_heap]; exact hB3) hq 12 (by simp [dchCells]) (.int .u64 (IntKind.u64.wrap (S.about - p.amount)))
        simpa [dchCells, Ch.moved, Ch.spent, Ch.put, e0] using this
      · exact hM3.keep (by rw [setCell_other _ _ _ hbx, drewN_heap])
      · rw [← HG.out]; rfl

end Go.Proofs.YtmfdhcnnhlchbaaGreat

namespace Go.Proofs.YtmfdhcnnhlchbaaGreat
open Go.RowKit

set_option maxRecDepth 100000 in
theorem shut_open {w : World} {x q : Nat} (c0 : w.cell? ⟨x, q, none⟩ = some (.bool true)) (hf : ∀ k, w.frozen? ⟨x, k, none⟩ = false) :
    Calls Tryz.prog 66 #[.pointer (some ⟨x, q, none⟩)] w fun e w' => e = .returned (.int .i64 0) ∧ w' = w.setCell ⟨x, q, none⟩ (.bool false) := by
  go_enter Tryz.func66, Tryz.ntmps66
  go_wp2_with fail
  go_ret
  exact ⟨rfl, rfl⟩

set_option maxRecDepth 100000 in
theorem shut_closed {w : World} {x q : Nat} (c0 : w.cell? ⟨x, q, none⟩ = some (.bool false)) :
    Calls Tryz.prog 66 #[.pointer (some ⟨x, q, none⟩)] w fun e w' => e = .returned (.int .i64 2) ∧ w' = w := by
  go_enter Tryz.func66, Tryz.ntmps66
  go_wp2_with fail
  go_ret
  exact ⟨rfl, rfl⟩

set_option maxRecDepth 100000 in
theorem account_any {w : World} (u : Int) :
    Calls Tryz.prog 84 #[.int .i64 u] w fun e w' => e = .returned (.bool (decide (0 ≤ u) && decide (u ≤ 2))) ∧ w' = w := by
  go_enter Tryz.func84, Tryz.ntmps84
  by_cases h1 : 0 ≤ u
  · by_cases h2 : u < 3
    · go_wp2_with fail
      go_ret
      exact ⟨by simp [h1]; omega, rfl⟩
    · go_wp2_with fail
      go_ret
      exact ⟨by simp; omega, rfl⟩
  · go_wp2_with fail
    go_ret
    exact ⟨by simp; omega, rfl⟩

end Go.Proofs.YtmfdhcnnhlchbaaGreat

namespace Go.Proofs.YtmfdhcnnhlchbaaGreat
open Go.RowKit Go.Maps

/-- Why a packet may not be sent. -/
def refE (S : Ch) (p : Pk) : Int :=
  if S.hd.isOpen = false then 2 else if p.src < 0 ∨ 2 < p.src then 3 else if p.coin < 0 ∨ 1 < p.coin then 4 else if p.amount = 0 then 5
  else if S.get (hasAt p.src p.coin) < p.amount then 6 else if p.height = 0 ∧ p.time = 0 then 7 else 0

theorem sendC_eq (S : Ch) (p : Pk) : sendC S p = if refE S p = 0 then (S.sent p, S.nextSend, 0) else (S, 0, refE S p) := by
  unfold sendC refE
  repeat' split
  all_goals simp_all

section
variable {lab : Nat → Nat} {l : Nat} {w : World} {x q : Nat} {pre post : List Value} {S : Ch} {K : Hd} {a : DAt} {B : Nat} {p : Pk}

abbrev Refuses (w : World) (x q : Nat) (p : Pk) (E : Int) : Prop := Calls Tryz.prog 79 #[.pointer (some ⟨x, q, none⟩), p.agg] w fun e w' => e = .returned (.int .i64 E) ∧ w.grownBy w' none

set_option maxRecDepth 100000 in
theorem refusal1 (h : DevCh lab l w x pre post S K a B) (hq : pre.length = q) (h1 : S.hd.isOpen = false) : Refuses w x q p 2 := by
  have hxl : x < w.heap.size := blk_lt h.blk
  obtain ⟨c0, c1, c2, c3, c4, c5, c6, c7, c8, c9, c10, c11, c12, c13, c14, c15, c16, c17, c18, c19, c20, c21, cf⟩ := dch_cells h.blk hq
  go_enter Tryz.func79, Tryz.ntmps79
  go_wp2_with fail
  go_ret
  exact ⟨rfl, World.grownBy_alloc w _ none⟩

theorem acc_no (h : p.src < 0 ∨ 2 < p.src) (W : World) : Calls Tryz.prog 84 #[.int .i64 p.src] W fun e w' => e = .returned (.bool false) ∧ w' = W := by
  have := account_any (w := W) p.src
  rwa [show (decide (0 ≤ p.src) && decide (p.src ≤ 2)) = false from by simp; omega] at this

theorem acc_yes (h : 0 ≤ p.src ∧ p.src ≤ 2) (W : World) : Calls Tryz.prog 84 #[.int .i64 p.src] W fun e w' => e = .returned (.bool true) ∧ w' = W := by
  have := account_any (w := W) p.src
  rwa [show (decide (0 ≤ p.src) && decide (p.src ≤ 2)) = true from by simp; omega] at this

set_option maxRecDepth 100000 in
theorem refusal2 (h : DevCh lab l w x pre post S K a B) (hq : pre.length = q) (h1 : S.hd.isOpen = true) (h2 : p.src < 0 ∨ 2 < p.src) : Refuses w x q p 3 := by
  have hxl : x < w.heap.size := blk_lt h.blk
  have hacc := acc_no h2
  obtain ⟨c0, c1, c2, c3, c4, c5, c6, c7, c8, c9, c10, c11, c12, c13, c14, c15, c16, c17, c18, c19, c20, c21, cf⟩ := dch_cells h.blk hq
  go_enter Tryz.func79, Tryz.ntmps79
  go_wp2_with fail
  refine (hacc _).mono ?_
  rintro e w1 ⟨rfl, rfl⟩
  go_wp2_with fail
  go_ret
  exact ⟨rfl, World.grownBy_alloc w _ none⟩

set_option maxRecDepth 100000 in
theorem refusal3 (h : DevCh lab l w x pre post S K a B) (hq : pre.length = q) (h1 : S.hd.isOpen = true) (h2 : 0 ≤ p.src ∧ p.src ≤ 2) (h3 : p.coin < 0 ∨ 1 < p.coin) : Refuses w x q p 4 := by
  have hxl : x < w.heap.size := blk_lt h.blk
  have hacc := acc_yes h2
  have h3a : (p.coin != 0) = true := by simp; omega
  have h3b : (p.coin != 1) = true := by simp; omega
  clear h2 h3
  obtain ⟨c0, c1, c2, c3, c4, c5, c6, c7, c8, c9, c10, c11, c12, c13, c14, c15, c16, c17, c18, c19, c20, c21, cf⟩ := dch_cells h.blk hq
  go_enter Tryz.func79, Tryz.ntmps79
  go_wp2_with fail
  refine (hacc _).mono ?_
  rintro e w1 ⟨rfl, rfl⟩
  go_wp2_with fail
  go_ret
  exact ⟨rfl, World.grownBy_alloc w _ none⟩

set_option maxRecDepth 100000 in
theorem refusal4 (h : DevCh lab l w x pre post S K a B) (hq : pre.length = q) (h1 : S.hd.isOpen = true) (h2 : 0 ≤ p.src ∧ p.src ≤ 2) (h3 : p.coin = 0 ∨ p.coin = 1) (h4 : (p.amount == 0) = true) : Refuses w x q p 5 := by
  have hxl : x < w.heap.size := blk_lt h.blk
  have hacc := acc_yes h2
  clear h2
  obtain ⟨c0, c1, c2, c3, c4, c5, c6, c7, c8, c9, c10, c11, c12, c13, c14, c15, c16, c17, c18, c19, c20, c21, cf⟩ := dch_cells h.blk hq
  obtain ⟨seq, src, dst, coin, amount, height, time⟩ := p
  simp only at hacc h3 h4
  rcases h3 with rfl | rfl
  all_goals
    go_enter Tryz.func79, Tryz.ntmps79
    go_wp2_with fail
    refine (hacc _).mono ?_
    rintro e w1 ⟨rfl, rfl⟩
    go_wp2_with fail
    go_ret
    exact ⟨rfl, World.grownBy_alloc w _ none⟩

set_option maxRecDepth 100000 in
set_option maxHeartbeats 800000 in
theorem refusal5 (h : DevCh lab l w x pre post S K a B) (hq : pre.length = q) (h1 : S.hd.isOpen = true) (h2 : 0 ≤ p.src ∧ p.src ≤ 2) (hc : 0 ≤ p.coin ∧ p.coin ≤ 1) (h3 : p.coin = 0 ∨ p.coin = 1) (h4 : (p.amount == 0) = false)
    (E : Int) (h5 : S.get (hasAt p.src p.coin) < p.amount ∧ E = 6 ∨ ¬ S.get (hasAt p.src p.coin) < p.amount ∧ ((p.height == 0) = true ∧ (p.time == 0) = true ∧ E = 7 ∨ (p.height == 0) = true ∧ (p.time == 0) = false ∧ E = 0 ∨ (p.height == 0) = false ∧ E = 0)) : Refuses w x q p E := by
  have hxl : x < w.heap.size := blk_lt h.blk
  have hacc := acc_yes h2
  obtain ⟨seq, src, dst, coin, amount, height, time⟩ := p
  simp only at hacc h3 h4 h5 h2 hc
  obtain ⟨kl, hkl⟩ := keyH (u := src) (c := coin) (by omega) (by omega) (by omega) (by omega)
  obtain ⟨w1, hw1⟩ : ∃ w1 : World, w1 = w.alloc (.cells (Pk.arr ⟨seq, src, dst, coin, amount, height, time⟩) tPk) := ⟨_, rfl⟩
  have g1 : w.grownBy w1 none := by rw [hw1]; exact World.grownBy_alloc _ _ _
  have hX1 : w1.heap[w.heap.size]? = some (.cells (Pk.arr ⟨seq, src, dst, coin, amount, height, time⟩) tPk (0, 0)) := by rw [hw1]; exact heap_alloc_new w _
  have hB1 := (g1.block x hxl (by simp)).trans h.blk
  have hM1 : MapIs Tryz.prog tHold encH w1.drew a.bf a.ff a.nf := (h.fund.keep (g1.block _ h.fund.lt (by simp))).keep rfl
  have hlook := hM1.look lawH Tryz.underlying89 (Tryz.zeroValue26 w1.drew) hkl
  rw [h.fok src coin, if_pos ⟨h2, hc⟩] at hlook
  simp only [encH] at hlook
  obtain ⟨G, hG⟩ : ∃ G, S.get (hasAt src coin) = G := ⟨_, rfl⟩
  rw [hG] at hlook h5
  clear h2 hG hc
  obtain ⟨c0, c1, c2, c3, c4, c5, c6, c7, c8, c9, c10, c11, c12, c13, c14, c15, c16, c17, c18, c19, c20, c21, cf⟩ := dch_cells h.blk hq
  obtain ⟨d0, d1, d2, d3, d4, d5, d6, d7, d8, d9, d10, d11, d12, d13, d14, d15, d16, d17, d18, d19, d20, d21, df⟩ := dch_cells hB1 hq
  obtain ⟨x0, x1, x2, x3, x4, x5, x6, xf⟩ := blk7 hX1
  rcases h3 with rfl | rfl
  all_goals
    go_enter Tryz.func79, Tryz.ntmps79
    go_wp2_with fail
    refine (hacc _).mono ?_
    rintro e w2 ⟨rfl, rfl⟩
    go_wp2_with fail
    rw [← hw1]
    clear hw1
    go_region
    rcases h5 with ⟨h5, rfl⟩ | ⟨h5, ⟨h6, h7, rfl⟩ | ⟨h6, h7, rfl⟩ | ⟨h6, rfl⟩⟩
    all_goals
      go_wp2_with fail
      go_ret
      exact ⟨rfl, grown_drew g1⟩

theorem refusal_any (h : DevCh lab l w x pre post S K a B) (hq : pre.length = q) : Refuses w x q p (refE S p) := by
  unfold refE
  by_cases h1 : S.hd.isOpen = false
  · rw [if_pos h1]; exact refusal1 h hq h1
  rw [if_neg h1]
  have h1' : S.hd.isOpen = true := by simpa using h1
  by_cases h2 : p.src < 0 ∨ 2 < p.src
  · rw [if_pos h2]; exact refusal2 h hq h1' h2
  rw [if_neg h2]
  have h2' : 0 ≤ p.src ∧ p.src ≤ 2 := by omega
  by_cases h3 : p.coin < 0 ∨ 1 < p.coin
  · rw [if_pos h3]; exact refusal3 h hq h1' h2' h3
  rw [if_neg h3]
  have h3' : p.coin = 0 ∨ p.coin = 1 := by omega
  by_cases h4 : p.amount = 0
  · rw [if_pos h4]; exact refusal4 h hq h1' h2' h3' (by simpa using h4)
  rw [if_neg h4]
  refine refusal5 h hq h1' h2' (by omega) h3' (by simpa using h4) _ ?_
  by_cases h5 : S.get (hasAt p.src p.coin) < p.amount
  · rw [if_pos h5]; exact .inl ⟨h5, rfl⟩
  · rw [if_neg h5]
    refine .inr ⟨h5, ?_⟩
    by_cases h6 : p.height = 0
    · by_cases h7 : p.time = 0
      · rw [if_pos ⟨h6, h7⟩]; exact .inl ⟨by simpa using h6, by simpa using h7, rfl⟩
      · rw [if_neg (fun e => h7 e.2)]; exact .inr (.inl ⟨by simpa using h6, by simpa using h7, rfl⟩)
    · rw [if_neg (fun e => h6 e.1)]; exact .inr (.inr ⟨by simpa using h6, rfl⟩)

end

end Go.Proofs.YtmfdhcnnhlchbaaGreat

namespace Go.Proofs.YtmfdhcnnhlchbaaGreat
open Go.RowKit Go.Maps

section
variable {lab : Nat → Nat} {l : Nat} {w : World} {x q : Nat} {pre post : List Value} {S : Ch} {K : Hd} {a : DAt} {B : Nat} {p : Pk}

theorem DevTo.mono {w' : World} {B' : Nat} (h : DevTo lab l w x pre post S K B w') (hB : B ≤ B') : DevTo lab l w x pre post S K B' w' := by
  obtain ⟨lab', a', h1, h2⟩ := h
  exact ⟨lab', a', h1.mono hB, h2⟩

theorem DevCh.fresh (h : DevCh lab l w x pre post S K a B) {w' : World} (g : w.grownBy w' none) : DevCh (labN lab w.heap.size) l w' x pre post S K a B :=
  h.keep ((g.block x (blk_lt h.blk) (by simp)).trans h.blk) (fun k hk _ => g.block k hk (by simp)) (fun _ hk => labN_old hk)

theorem StepL.drew {x : Nat} {lab lab' : Nat → Nat} {w w' : World} (h : StepL l x lab lab' w.drew w') : StepL l x lab lab' w w' := ⟨h.os, h.tape, h.output, h.size, h.label, h.block, h.new⟩

/-- What a call of a chain's step has left. -/
def DLeft (lab : Nat → Nat) (l : Nat) (w : World) (x : Nat) (pre post : List Value) (r : Ch × Int × Int) (K : Hd) (B : Nat) (e : Ending) (w' : World) : Prop :=
  e = .returned (.tuple #[.int .u64 r.2.1, .int .i64 r.2.2]) ∧ DevTo lab l w x pre post r.1 K B w'

theorem sent_eq (S : Ch) (p : Pk) : S.sent p = (S.moved p).posted p := rfl

set_option maxRecDepth 100000 in
set_option maxHeartbeats 800000 in
theorem send_any (h : DevCh lab l w x pre post S K a B) (hl : l ≠ 0) (hq : pre.length = q) (hB : B ≤ 9000000) :
    Calls Tryz.prog 59 #[.pointer (some ⟨x, q, none⟩), p.agg] w fun e w' => DLeft lab l w x pre post (sendC S p) K (B + 4) e w' := by
  rw [sendC_eq]
  have hxl : x < w.heap.size := blk_lt h.blk
  obtain ⟨w1, hw1⟩ : ∃ w1 : World, w1 = w.alloc (.cells p.arr tPk) := ⟨_, rfl⟩
  have g1 : w.grownBy w1 none := by rw [hw1]; exact World.grownBy_alloc _ _ _
  have hX1 : w1.heap[w.heap.size]? = some (.cells p.arr tPk (0, 0)) := by rw [hw1]; exact heap_alloc_new w _
  have h1 : DevCh (labN lab w.heap.size) l w1 x pre post S K a B := h.fresh g1
  have href := refusal_any (p := p) h1 hq
  unfold Refuses at href
  by_cases hE : refE S p = 0
  · rw [if_pos hE]
    have hu : (0 ≤ p.src ∧ p.src ≤ 2) ∧ (0 ≤ p.coin ∧ p.coin ≤ 1) := by
      unfold refE at hE
      repeat' split at hE
      all_goals first | omega | skip
    rw [hE] at href
    go_enter Tryz.func59, Tryz.ntmps59
    go_wp2_with fail
    rw [← hw1]
    clear hw1
    refine href.mono ?_
    rintro e w2 ⟨rfl, g2⟩
    clear href
    have h2 := h1.grown g2
    have hX2 := (g2.block w.heap.size (blk_lt hX1) (by simp)).trans hX1
    have htake := take_any (p := p) h2 hl hq (by omega) hu.1 hu.2
    obtain ⟨x0, x1, x2, x3, x4, x5, x6, xf⟩ := blk7 hX2
    go_wp2_with fail
    refine htake.mono ?_
    rintro e w3 ⟨rfl, lab3, a3, h3, st3⟩
    clear htake x0 x1 x2 x3 x4 x5 x6 xf
    have hX3 := (st3.block w.heap.size (blk_lt hX2) (by rw [labN_new (Nat.le_refl _)]; exact fun e => hl e.symm) (by omega)).trans hX2
    obtain ⟨x0, x1, x2, x3, x4, x5, x6, xf⟩ := blk7 hX3
    have h3d : DevCh lab3 l w3.drew x pre post (S.moved p) K a3 (B + 1) := h3.grown (grown_drew (grown_refl w3 none))
    have hpost := post_any h3d hl hq (by omega) p hu
    go_wp2_with fail
    refine wp_region_head 4 (by kernel_rfl) (by kernel_rfl) #[true, true, true, true, false, false, false] (by kernel_rfl) ?_
    simp only [List.take_succ_cons, List.take_zero]
    repeat still_step
    refine wpStill_nil ?_
    refine wpAny_ready (rs := [4]) (by kernel_rfl) (by simp) ?_
    refine AllReady.cons (o := _) rfl (fun K hK => ?_) AllReady.nil
    go_simp
    refine hpost.mono ?_
    rintro e w4 ⟨rfl, hd4⟩
    refine hK _ _ ?_
    clear hK K
    refine wpAny_take (i := 5) (v := ?v5) rfl (by kernel_rfl) (by kernel_rfl) (by kernel_rfl) (fun _ _ _ h => h) (Or.inl ⟨by rfl, ?hy5⟩) ?rest5
    case hy5 =>
      intro w
      go_simp
      with_reducible rfl
    refine wpAny_take (i := 6) (v := ?v6) rfl (by kernel_rfl) (by kernel_rfl) (by kernel_rfl) (fun _ _ _ h => h) (Or.inl ⟨by rfl, ?hy6⟩) ?rest6
    case hy6 =>
      intro w
      go_simp
      with_reducible rfl
    refine wpAny_done (by kernel_rfl) ?_ _
    go_wp2_with fail
    go_ret2
    refine ⟨rfl, ?_⟩
    obtain ⟨lab4, a4, h4, st4⟩ := hd4
    exact ⟨lab4, a4, h4.mono (by omega), ((grown_stepL (grown_trans g1 g2 (by simp))).trans st3).trans st4.drew⟩
  · rw [if_neg hE]
    have hE' : (refE S p != 0) = true := by simpa using hE
    go_enter Tryz.func59, Tryz.ntmps59
    go_wp2_with fail
    rw [← hw1]
    refine href.mono ?_
    rintro e w2 ⟨rfl, g2⟩
    go_wp2_with fail
    go_ret2
    exact ⟨rfl, _, a, (h.fresh (grown_trans g1 g2 (by simp))).mono (by omega), grown_stepL (grown_trans g1 g2 (by simp))⟩

end

end Go.Proofs.YtmfdhcnnhlchbaaGreat
