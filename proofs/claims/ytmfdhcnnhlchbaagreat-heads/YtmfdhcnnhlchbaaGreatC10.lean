import Derived.Test.YtmfdhcnnhlchbaaGreatC09
import Derived.Test.YtmfdhcnnhlchbaaGreatC04
import Derived.Deep.Cut
namespace Go.Proofs.YtmfdhcnnhlchbaaGreat
open Go.RowKit

section
variable {own : Nat → Nat} {o : Nat} {w : World} {b : Nat} {S : Ch} {a : At} {p : Pk} {K : HdV} {n : Int}

theorem blk2' {w : World} {b t : Nat} {x0 x1 : Value} (h : w.heap[b]? = some (.cells #[x0, x1] t (0, 0))) : w.cell? ⟨b, 0, none⟩ = some x0 ∧ w.cell? ⟨b, 1, none⟩ = some x1 := by
  refine ⟨?_, ?_⟩ <;> simp [World.cell?, h]

/-- An answer more. -/
theorem ans_done {X : Obj} {w4 : World} {a4 : Option Addr} {k4 : Nat} {x : Int × Bool} (h : RefCh own o w b S a) (ho : o ≠ 0)
    (grow4 : (w.alloc X).grownBy w4 (Value.slice a.aa S.hd.answers.length a.ca).ownBlock)
    (own4 : w4.ownsRow 0 tAns 2 (.slice a4 (S.hd.answers.length + 1) k4) (S.hd.answers.length + 1) (S.hd.answers.flatMap ansCells ++ ansCells x))
    (lab4 : fresh (w.alloc X) (.slice a.aa S.hd.answers.length a.ca) (.slice a4 (S.hd.answers.length + 1) k4)) :
    RefTo own o w b { S with hd := { S.hd with answers := S.hd.answers ++ [x] } } (w4.setCell ⟨b, 5, none⟩ (.slice a4 (S.hd.answers.length + 1) k4)) := by
  have hbl := blk_lt h.blk
  have hnb : some b ≠ (Value.slice a.aa S.hd.answers.length a.ca).ownBlock := owns_ne h.blk h.an (by decide)
  have hB4 : w4.heap[b]? = some (.cells (chCells S a).toArray tCh (0, 0)) := (grow4.block b (by simp; omega) hnb).trans ((heap_alloc_old w X hbl).trans h.blk)
  have hnb4 : some b ≠ (Value.slice a4 (S.hd.answers.length + 1) k4).ownBlock := owns_ne hB4 own4 (by decide)
  have hs4 : w.heap.size + 1 ≤ w4.heap.size := by have := grow4.size; simp at this; omega
  have hk : ∀ k, k < w.heap.size → k ≠ b → some k ≠ (Value.slice a.aa S.hd.answers.length a.ca).ownBlock → (w4.setCell ⟨b, 5, none⟩ (.slice a4 (S.hd.answers.length + 1) k4)).heap[k]? = w.heap[k]? := by
    intro k hk hkb hkr
    rw [setCell_other _ _ _ hkb, grow4.block k (by simp; omega) hkr]
    exact heap_alloc_old w X hk
  refine (ref_build (w' := w4.setCell ⟨b, 5, none⟩ (.slice a4 (S.hd.answers.length + 1) k4)) (S' := { S with hd := { S.hd with answers := S.hd.answers ++ [x] } }) (a' := { a with aa := a4, ca := k4 }) h grow4.os grow4.tape grow4.output (by rw [setCell_size]; omega) (fun k hk1 hne => hk k hk1 (fun e => hne (by rw [e, h.lb])) (fun e => hne (h.lan k e.symm))) ho ?_ ?_ ?_ ?_ ?_ ?_ ?_ h.heads (fun x hx => .inl hx)).elim fun own' h' => ⟨own', _, h'⟩
  · rw [setCell_same hB4]
    simp [chCells]
  · exact row_keep h.pk h.blk (by decide) (row_apart h.pk h.an (by decide)) hk
  · exact fun k e _ => h.lpk k e
  · refine owns_keep (w := w4) ?_ fun k e => ?_
    · simpa [ownsAns, At.va] using own4
    · rw [setCell_other]
      rintro rfl
      exact hnb4 (by simpa [At.va] using e.symm)
  · intro k e hk1
    rcases lab4 k (by simpa [At.va] using e) with e1 | e1
    · exact h.lan k e1
    · simp at e1; omega
  · exact row_keep h.hd h.blk (by decide) (row_apart h.hd h.an (by decide)) hk
  · exact fun k e _ => h.lhd k e

theorem srcAns (w : World) (t : TypeId) (x0 x1 : Value) : srcRow (w.alloc (.cells #[x0, x1] t)) 2 (.slice (some ⟨w.heap.size, 0, none⟩) 1 1) 1 [x0, x1] := by
  refine ⟨rfl, .inr ⟨_, _, rfl, ?_⟩⟩
  intro j u hj
  rw [Addr.add_lit]
  rw [cell_of_row _ _ _ _ _ _ (heap_alloc_new w (.cells #[x0, x1] t))]
  simpa using hj

abbrev hdrArr (K : HdV) : Array Value := #[.int .u64 K.hd.height, .int .u64 K.hd.time, .bool K.hd.isOpen, .int .u64 K.hd.nextRecv, .slice K.ap K.hd.packets.length K.cp, .slice K.aa K.hd.answers.length K.ca]

abbrev RecvAt (own : Nat → Nat) (o : Nat) (w : World) (b : Nat) (K : HdV) (n : Int) (r : Ch × Int × Int) : Prop :=
    Calls Tryz.prog 50 #[.pointer (some ⟨b, 0, none⟩), .int .u64 n, hdrAgg K] w fun e w' => e = .returned (.int .i64 r.2.2) ∧ RefTo own o w b r.1 w'

set_option maxRecDepth 100000 in
set_option maxHeartbeats 800000 in
theorem recv_closed (h : RefCh own o w b S a) (hop : S.hd.isOpen = false) : RecvAt own o w b K n (S, 0, 2) := by
  obtain ⟨c0, c1, c2, c3, c4, c5, c6, c7, c8, c9, c10, c11, c12, c13, c14, c15, c16, c17, hf⟩ := ch_cells h.blk
  have hbl : b < w.heap.size := blk_lt h.blk
  clear c0 c1 c3 c4 c5 c6 c7 c8 c9 c10 c11 c12 c13 c14 c15 c16 c17
  go_enter Tryz.func50, Tryz.ntmps50
  go_wp2_with fail
  go_ret
  exact ⟨rfl, same_to h (World.grownBy_alloc _ _ _)⟩

set_option maxRecDepth 100000 in
set_option maxHeartbeats 800000 in
theorem recv_order (h : RefCh own o w b S a) (hop : S.hd.isOpen = true) (hn : (n != S.hd.nextRecv) = true) : RecvAt own o w b K n (S, 0, 9) := by
  obtain ⟨c0, c1, c2, c3, c4, c5, c6, c7, c8, c9, c10, c11, c12, c13, c14, c15, c16, c17, hf⟩ := ch_cells h.blk
  have hbl : b < w.heap.size := blk_lt h.blk
  clear c0 c1 c4 c5 c6 c7 c8 c9 c10 c11 c12 c13 c14 c15 c16 c17
  go_enter Tryz.func50, Tryz.ntmps50
  go_wp2_with fail
  go_ret
  exact ⟨rfl, same_to h (World.grownBy_alloc _ _ _)⟩

set_option maxRecDepth 100000 in
set_option maxHeartbeats 800000 in
theorem recv_packet (h : RefCh own o w b S a) (hop : S.hd.isOpen = true) (hn : (n != S.hd.nextRecv) = false) (hK : HdOk own w K) (bK : K.hd.packets.length ≤ 1048576) (F : ∀ q ∈ K.hd.packets, (q.seq == n) = false) : RecvAt own o w b K n (S, 0, 10) := by
  obtain ⟨c0, c1, c2, c3, c4, c5, c6, c7, c8, c9, c10, c11, c12, c13, c14, c15, c16, c17, hf⟩ := ch_cells h.blk
  have hbl : b < w.heap.size := blk_lt h.blk
  have hfind := fun (X : Obj) => rfind_no (n := n) F (show ownsPk (w.alloc X) (.slice K.ap K.hd.packets.length K.cp) K.hd.packets from hK.1.alloc X) bK
  clear c0 c1 c4 c5 c6 c7 c8 c9 c10 c11 c12 c13 c14 c15 c16 c17
  go_enter Tryz.func50, Tryz.ntmps50
  go_wp2_with fail
  refine (hfind _).mono ?_
  rintro e w2 ⟨rfl, g2⟩
  go_wp2_with fail
  go_ret
  exact ⟨rfl, same_to h (grown_trans (World.grownBy_alloc w _ none) g2 (fun k e => by cases e))⟩

theorem cell_grown' {w w' : World} (g : w.grownBy w' none) {b : Nat} (hb : b < w.heap.size) : ∀ j, w'.cell? ⟨b, j, none⟩ = w.cell? ⟨b, j, none⟩ := fun _ => World.cell?_of_block (g.block b hb (by simp))

theorem RefTo.since' {own6 : Nat → Nat} {w1 w2 : World} {S' : Ch} (h : RefTo own6 o w1 b S' w2) (g : Step own own6 o w w1) : RefTo own o w b S' w2 := by
  obtain ⟨own', a', h1, h2⟩ := h
  exact ⟨own', a', h1, g.trans h2⟩

/-- The next number is one more. -/
abbrev Ch.oneMore (S : Ch) : Ch := { S with hd := { S.hd with nextRecv := IntKind.u64.wrap (S.hd.nextRecv + 1) } }
abbrev Ch.answered (S : Ch) (x : Int × Bool) : Ch := { S with hd := { S.hd with answers := S.hd.answers ++ [x] } }

set_option maxRecDepth 100000 in
set_option maxHeartbeats 1600000 in
theorem recv_late {k : Nat} (h : RefCh own o w b S a) (hop : S.hd.isOpen = true) (hn : (n != S.hd.nextRecv) = false) (hK : HdOk own w K) (bK : K.hd.packets.length ≤ 1048576) (F : FoundAt K.hd.packets n k p) (hd : dueB p S.hd.height S.hd.time = true) : RecvAt own o w b K n (S, 0, 11) := by
  obtain ⟨c0, c1, c2, c3, c4, c5, c6, c7, c8, c9, c10, c11, c12, c13, c14, c15, c16, c17, hf⟩ := ch_cells h.blk
  have hbl : b < w.heap.size := blk_lt h.blk
  have hkl : k < K.hd.packets.length := (List.getElem?_eq_some_iff.1 F.here).1
  obtain ⟨g, hap, hcap, hmax⟩ := owns_some' hK.1 (by omega)
  have hrow : w.ownsRow 0 tPk 7 (.slice (some ⟨g, 0, none⟩) K.hd.packets.length K.cp) K.hd.packets.length (K.hd.packets.flatMap Pk.cells) := by have := hK.1; simp only [ownsPk, HdV.vp, hap] at this; exact this
  have hgl : g < w.heap.size := owns_lt hrow rfl
  have hfind := fun (X : Obj) => rfind_yes F (show (w.alloc X).ownsRow 0 tPk 7 (.slice (some ⟨g, 0, none⟩) K.hd.packets.length K.cp) K.hd.packets.length (K.hd.packets.flatMap Pk.cells) from hrow.alloc X) bK
  have HAP : Hid (K.ap = some ⟨g, 0, none⟩) := hap
  clear c0 c1 c4 c5 c6 c7 c8 c9 c10 c11 c12 c13 c14 c15 c16 c17
  unfold RecvAt
  rw [show hdrAgg K = .agg #[.int .u64 K.hd.height, .int .u64 K.hd.time, .bool K.hd.isOpen, .int .u64 K.hd.nextRecv, .slice (some ⟨g, 0, none⟩) K.hd.packets.length K.cp, .slice K.aa K.hd.answers.length K.ca] from by rw [← hap]]
  clear hap
  go_enter Tryz.func50, Tryz.ntmps50
  go_wp2_with fail
  refine (hfind _).mono ?_
  rintro e w2 ⟨rfl, g2⟩
  have g02 : w.grownBy w2 none := grown_trans (World.grownBy_alloc w _ none) g2 (fun k e => by cases e)
  have hX2 := (g2.block w.heap.size (by simp) (by simp)).trans (heap_alloc_new w _)
  have hR2 := (ref_same h g02).1
  have hrow2 : w2.ownsRow 0 tPk 7 (.slice (some ⟨g, 0, none⟩) K.hd.packets.length K.cp) K.hd.packets.length (K.hd.packets.flatMap Pk.cells) := owns_keep hrow fun q e => g02.block q (owns_lt hrow e) (by simp)
  obtain ⟨x0, x1, x2, x3, x4, x5, xf⟩ := blk6 hX2
  obtain ⟨p0, p1, p2, p3, p4, p5, p6⟩ := pk_cells hrow2 F.here
  have hz2 := blk_lt hX2
  have hg2 : g < w2.heap.size := owns_lt hrow2 rfl
  have hkl' : (k : Int) < (K.hd.packets.length : Int) := by omega
  clear c2 c3 hf hfind
  go_wp2_with fail
  obtain ⟨w3, hw3⟩ : ∃ w3 : World, w3 = w2.alloc (.cells p.arr tPk) := ⟨_, rfl⟩
  rw [← hw3]
  have g3 : w.grownBy w3 none := by rw [hw3]; exact grown_alloc g02 _
  have hP3 : w3.heap[w2.heap.size]? = some (.cells p.arr tPk (0, 0)) := by rw [hw3]; exact heap_alloc_new w2 _
  have hR3 := (ref_same h g3).1
  obtain ⟨y0, y1, y2, y3, y4, y5, y6, yf⟩ := blk7 hP3
  obtain ⟨d0, d1, d2, d3, d4, d5, d6, d7, d8, d9, d10, d11, d12, d13, d14, d15, d16, d17, df⟩ := ch_cells hR3.blk
  have z3 := blk_lt hP3
  have hb3 := blk_lt hR3.blk
  clear x0 x1 x2 x3 x4 x5 xf p0 p1 p2 p3 p4 p5 p6 hw3 hrow2 hX2 hkl' d2 d3 d4 d5 d6 d7 d8 d9 d10 d11 d12 d13 d14 d15 d16 d17 df yf hR2
  go_region_held3 (fun w' => w'.cell? ⟨w2.heap.size, 0, none⟩ = some (.int .u64 p.seq) ∧ w'.cell? ⟨w2.heap.size, 1, none⟩ = some (.int .i64 p.src) ∧ w'.cell? ⟨w2.heap.size, 2, none⟩ = some (.int .i64 p.dst) ∧ w'.cell? ⟨w2.heap.size, 3, none⟩ = some (.int .i64 p.coin) ∧ w'.cell? ⟨w2.heap.size, 4, none⟩ = some (.int .u64 p.amount) ∧ w'.cell? ⟨w2.heap.size, 5, none⟩ = some (.int .u64 p.height) ∧ w'.cell? ⟨w2.heap.size, 6, none⟩ = some (.int .u64 p.time) ∧ w'.cell? ⟨b, 0, none⟩ = some (.int .u64 S.hd.height) ∧ w'.cell? ⟨b, 1, none⟩ = some (.int .u64 S.hd.time)) (go_keep)
    (first | (go_at_call 70; refine (rdue_any p S.hd.height S.hd.time _).mono ?_; rintro e w4 ⟨rfl, g4⟩; have e1 := cell_grown' g4 (b := w2.heap.size) z3; have e2 := cell_grown' g4 (b := b) hb3))
  all_goals
    have g04 : w.grownBy w4 none := grown_trans g3 (grown_trans (grown_drew (grown_refl w3 none)) g4 (fun k e => by cases e)) (fun k e => by cases e)
    have hP4 : w4.heap[w2.heap.size]? = some (.cells p.arr tPk (0, 0)) := (g4.block _ z3 (by simp)).trans hP3
    have hR4 := (ref_same h g04).1
    clear y0 y1 y2 y3 y4 y5 y6 d0 d1 e1 e2
    obtain ⟨y0, y1, y2, y3, y4, y5, y6, yf⟩ := blk7 hP4
    obtain ⟨d0, d1, d2, d3, d4, d5, d6, d7, d8, d9, d10, d11, d12, d13, d14, d15, d16, d17, df⟩ := ch_cells hR4.blk
    have z4 := blk_lt hP4
    have hb4 := blk_lt hR4.blk
    clear hR3 hP3
    go_wp2_with fail
    go_ret
    exact ⟨rfl, same_to h g04⟩

set_option maxRecDepth 100000 in
set_option maxHeartbeats 1600000 in
theorem recv_good {k : Nat} (h : RefCh own o w b S a) (hop : S.hd.isOpen = true) (hn : (n != S.hd.nextRecv) = false) (hK : HdOk own w K) (bK : K.hd.packets.length ≤ 1048576) (F : FoundAt K.hd.packets n k p) (ho : o ≠ 0) (ba : S.hd.answers.length ≤ 1048576) (hd : dueB p S.hd.height S.hd.time = false) (hg0 : 0 ≤ p.dst) (hg1 : p.dst ≤ 2) (hc0 : 0 ≤ p.coin) (hc1 : p.coin ≤ 1) : RecvAt own o w b K n ((S.oneMore.credit p.dst p.coin p.amount).answered (n, true), 0, 0) := by
  obtain ⟨i1, hi1, z1, s1, t1⟩ := info_parts infoAns
  obtain ⟨c0, c1, c2, c3, c4, c5, c6, c7, c8, c9, c10, c11, c12, c13, c14, c15, c16, c17, hf⟩ := ch_cells h.blk
  have hbl : b < w.heap.size := blk_lt h.blk
  have hkl : k < K.hd.packets.length := (List.getElem?_eq_some_iff.1 F.here).1
  obtain ⟨g, hap, hcap, hmax⟩ := owns_some' hK.1 (by omega)
  have hrow : w.ownsRow 0 tPk 7 (.slice (some ⟨g, 0, none⟩) K.hd.packets.length K.cp) K.hd.packets.length (K.hd.packets.flatMap Pk.cells) := by have := hK.1; simp only [ownsPk, HdV.vp, hap] at this; exact this
  have hgl : g < w.heap.size := owns_lt hrow rfl
  have hfind := fun (X : Obj) => rfind_yes F (show (w.alloc X).ownsRow 0 tPk 7 (.slice (some ⟨g, 0, none⟩) K.hd.packets.length K.cp) K.hd.packets.length (K.hd.packets.flatMap Pk.cells) from hrow.alloc X) bK
  have HAP : Hid (K.ap = some ⟨g, 0, none⟩) := hap
  clear c0 c1 c4 c5 c6 c7 c8 c9 c10 c11 c12 c13 c14 c15 c16 c17
  unfold RecvAt
  rw [show hdrAgg K = .agg #[.int .u64 K.hd.height, .int .u64 K.hd.time, .bool K.hd.isOpen, .int .u64 K.hd.nextRecv, .slice (some ⟨g, 0, none⟩) K.hd.packets.length K.cp, .slice K.aa K.hd.answers.length K.ca] from by rw [← hap]]
  clear hap
  go_enter Tryz.func50, Tryz.ntmps50
  go_wp2_with fail
  refine (hfind _).mono ?_
  rintro e w2 ⟨rfl, g2⟩
  have g02 : w.grownBy w2 none := grown_trans (World.grownBy_alloc w _ none) g2 (fun k e => by cases e)
  have hX2 := (g2.block w.heap.size (by simp) (by simp)).trans (heap_alloc_new w _)
  have hR2 := (ref_same h g02).1
  have hrow2 : w2.ownsRow 0 tPk 7 (.slice (some ⟨g, 0, none⟩) K.hd.packets.length K.cp) K.hd.packets.length (K.hd.packets.flatMap Pk.cells) := owns_keep hrow fun q e => g02.block q (owns_lt hrow e) (by simp)
  obtain ⟨x0, x1, x2, x3, x4, x5, xf⟩ := blk6 hX2
  obtain ⟨p0, p1, p2, p3, p4, p5, p6⟩ := pk_cells hrow2 F.here
  have hz2 := blk_lt hX2
  have hg2 : g < w2.heap.size := owns_lt hrow2 rfl
  have hkl' : (k : Int) < (K.hd.packets.length : Int) := by omega
  clear c2 c3 hf hfind
  go_wp2_with fail
  obtain ⟨w3, hw3⟩ : ∃ w3 : World, w3 = w2.alloc (.cells p.arr tPk) := ⟨_, rfl⟩
  rw [← hw3]
  have g3 : w.grownBy w3 none := by rw [hw3]; exact grown_alloc g02 _
  have hP3 : w3.heap[w2.heap.size]? = some (.cells p.arr tPk (0, 0)) := by rw [hw3]; exact heap_alloc_new w2 _
  have hR3 := (ref_same h g3).1
  obtain ⟨y0, y1, y2, y3, y4, y5, y6, yf⟩ := blk7 hP3
  obtain ⟨d0, d1, d2, d3, d4, d5, d6, d7, d8, d9, d10, d11, d12, d13, d14, d15, d16, d17, df⟩ := ch_cells hR3.blk
  have z3 := blk_lt hP3
  have hb3 := blk_lt hR3.blk
  clear x0 x1 x2 x3 x4 x5 xf p0 p1 p2 p3 p4 p5 p6 hw3 hrow2 hX2 hkl' d2 d3 d4 d5 d6 d7 d8 d9 d10 d11 d12 d13 d14 d15 d16 d17 df yf hR2
  go_region_held3 (fun w' => w'.cell? ⟨w2.heap.size, 0, none⟩ = some (.int .u64 p.seq) ∧ w'.cell? ⟨w2.heap.size, 1, none⟩ = some (.int .i64 p.src) ∧ w'.cell? ⟨w2.heap.size, 2, none⟩ = some (.int .i64 p.dst) ∧ w'.cell? ⟨w2.heap.size, 3, none⟩ = some (.int .i64 p.coin) ∧ w'.cell? ⟨w2.heap.size, 4, none⟩ = some (.int .u64 p.amount) ∧ w'.cell? ⟨w2.heap.size, 5, none⟩ = some (.int .u64 p.height) ∧ w'.cell? ⟨w2.heap.size, 6, none⟩ = some (.int .u64 p.time) ∧ w'.cell? ⟨b, 0, none⟩ = some (.int .u64 S.hd.height) ∧ w'.cell? ⟨b, 1, none⟩ = some (.int .u64 S.hd.time)) (go_keep)
    (first | (go_at_call 70; refine (rdue_any p S.hd.height S.hd.time _).mono ?_; rintro e w4 ⟨rfl, g4⟩; have e1 := cell_grown' g4 (b := w2.heap.size) z3; have e2 := cell_grown' g4 (b := b) hb3))
  all_goals
    have g04 : w.grownBy w4 none := grown_trans g3 (grown_trans (grown_drew (grown_refl w3 none)) g4 (fun k e => by cases e)) (fun k e => by cases e)
    have hP4 : w4.heap[w2.heap.size]? = some (.cells p.arr tPk (0, 0)) := (g4.block _ z3 (by simp)).trans hP3
    have hR4 := (ref_same h g04).1
    clear y0 y1 y2 y3 y4 y5 y6 d0 d1 e1 e2
    obtain ⟨y0, y1, y2, y3, y4, y5, y6, yf⟩ := blk7 hP4
    obtain ⟨d0, d1, d2, d3, d4, d5, d6, d7, d8, d9, d10, d11, d12, d13, d14, d15, d16, d17, df⟩ := ch_cells hR4.blk
    have z4 := blk_lt hP4
    have hb4 := blk_lt hR4.blk
    clear hR3 hP3
    have hR5 : ∀ w5, w5 = w4.setCell ⟨b, 3, none⟩ (.int .u64 (IntKind.u64.wrap (S.hd.nextRecv + 1))) → RefCh own o w5 b S.oneMore a ∧ Step own own o w w5 := by
      intro w5 e5
      rw [e5]
      refine cell_ref h (grown_set (grown_none g04 _) _ _ (.inl rfl)) ?_ ho rfl rfl rfl
      rw [setCell_same hR4.blk]
      rfl
    clear d0 d1 d2 d4 d5 d6 d7 d8 d9 d10 d11 d12 d13 d14 d15 d16 d17
    go_wp2_with fail
    obtain ⟨w5, hw5⟩ : ∃ w5 : World, w5 = w4.setCell ⟨b, 3, none⟩ (.int .u64 (IntKind.u64.wrap (S.hd.nextRecv + 1))) := ⟨_, rfl⟩
    rw [← hw5]
    obtain ⟨hR5', s5⟩ := hR5 w5 hw5
    refine (credit_any hR5' ho hg0 hg1 hc0 hc1).mono ?_
    rintro e w6 ⟨rfl, own6, a6, hR6, s6⟩
    have s06 := s5.trans s6
    clear hR5 hw5 d3 df y0 y1 y2 y3 y4 y5 y6 yf
    obtain ⟨d0, d1, d2, d3, d4, d5, d6, d7, d8, d9, d10, d11, d12, d13, d14, d15, d16, d17, df⟩ := ch_cells hR6.blk
    change w6.cell? ⟨b, 5, none⟩ = some (.slice a6.aa S.hd.answers.length a6.ca) at d5
    have hb6 := blk_lt hR6.blk
    clear d0 d1 d2 d3 d4 d6 d7 d8 d9 d10 d11 d12 d13 d14 d15 d16 d17
    go_wp2_with (at_builtin; refine wpList_append_rows rfl (.tmp 77) (.tmp 81) 58 rfl 149 i1 _ 2 16 Tryz.underlying58 hi1 z1 s1 t1 rfl (by decide) (.slice a6.aa S.hd.answers.length a6.ca) S.hd.answers.length (S.hd.answers.flatMap ansCells) ?hs ?ho (.slice (some ⟨w6.heap.size, 0, none⟩) 1 1) 1 [.int .u64 n, .bool true] ?hx ?hsrc ?h1 ?hb1 ?hb2 ?_)
    case hs => first | rfl | simp [Act.eval]
    case ho => exact hR6.an.alloc _
    case hx => first | rfl | simp [Act.eval]
    case hsrc => exact srcAns _ _ _ _
    case h1 => intro u hu; simp at hu; rcases hu with rfl | rfl <;> rfl
    case hb1 => omega
    case hb2 => omega
    intro v7 w7 own7 grow7 lab7
    obtain ⟨a7, k7, hv7⟩ := owns_form own7
    subst hv7
    have R := ans_done (x := (n, true)) hR6 ho grow7 own7 lab7
    have hnb : some b ≠ (Value.slice a6.aa S.hd.answers.length a6.ca).ownBlock := owns_ne hR6.blk hR6.an (by decide)
    have hB7 := (grow7.block b (by simp; omega) hnb).trans ((heap_alloc_old w6 _ hb6).trans hR6.blk)
    clear d5 df
    obtain ⟨d0, d1, d2, d3, d4, d5, d6, d7, d8, d9, d10, d11, d12, d13, d14, d15, d16, d17, df⟩ := ch_cells hB7
    clear d0 d1 d2 d3 d4 d6 d7 d8 d9 d10 d11 d12 d13 d14 d15 d16 d17
    go_wp2_with fail
    go_ret
    exact ⟨rfl, R.since' s06⟩

set_option maxRecDepth 100000 in
set_option maxHeartbeats 1600000 in
theorem recv_bad {k : Nat} (h : RefCh own o w b S a) (hop : S.hd.isOpen = true) (hn : (n != S.hd.nextRecv) = false) (hK : HdOk own w K) (bK : K.hd.packets.length ≤ 1048576) (F : FoundAt K.hd.packets n k p) (ho : o ≠ 0) (ba : S.hd.answers.length ≤ 1048576) (hd : dueB p S.hd.height S.hd.time = false) (hg : p.dst < 0 ∨ 2 < p.dst) : RecvAt own o w b K n (S.oneMore.answered (n, false), 0, 0) := by
  obtain ⟨i1, hi1, z1, s1, t1⟩ := info_parts infoAns
  have hgg : decide (0 ≤ p.dst) = false ∨ decide (0 ≤ p.dst) = true ∧ decide (p.dst ≤ 2) = false := by simp; omega
  clear hg
  rcases hgg with hgg | ⟨hgg, hgh⟩
  all_goals
    obtain ⟨c0, c1, c2, c3, c4, c5, c6, c7, c8, c9, c10, c11, c12, c13, c14, c15, c16, c17, hf⟩ := ch_cells h.blk
    have hbl : b < w.heap.size := blk_lt h.blk
    have hkl : k < K.hd.packets.length := (List.getElem?_eq_some_iff.1 F.here).1
    obtain ⟨g, hap, hcap, hmax⟩ := owns_some' hK.1 (by omega)
    have hrow : w.ownsRow 0 tPk 7 (.slice (some ⟨g, 0, none⟩) K.hd.packets.length K.cp) K.hd.packets.length (K.hd.packets.flatMap Pk.cells) := by have := hK.1; simp only [ownsPk, HdV.vp, hap] at this; exact this
    have hgl : g < w.heap.size := owns_lt hrow rfl
    have hfind := fun (X : Obj) => rfind_yes F (show (w.alloc X).ownsRow 0 tPk 7 (.slice (some ⟨g, 0, none⟩) K.hd.packets.length K.cp) K.hd.packets.length (K.hd.packets.flatMap Pk.cells) from hrow.alloc X) bK
    have HAP : Hid (K.ap = some ⟨g, 0, none⟩) := hap
    clear c0 c1 c4 c5 c6 c7 c8 c9 c10 c11 c12 c13 c14 c15 c16 c17
    unfold RecvAt
    rw [show hdrAgg K = .agg #[.int .u64 K.hd.height, .int .u64 K.hd.time, .bool K.hd.isOpen, .int .u64 K.hd.nextRecv, .slice (some ⟨g, 0, none⟩) K.hd.packets.length K.cp, .slice K.aa K.hd.answers.length K.ca] from by rw [← hap]]
    clear hap
    go_enter Tryz.func50, Tryz.ntmps50
    go_wp2_with fail
    refine (hfind _).mono ?_
    rintro e w2 ⟨rfl, g2⟩
    have g02 : w.grownBy w2 none := grown_trans (World.grownBy_alloc w _ none) g2 (fun k e => by cases e)
    have hX2 := (g2.block w.heap.size (by simp) (by simp)).trans (heap_alloc_new w _)
    have hR2 := (ref_same h g02).1
    have hrow2 : w2.ownsRow 0 tPk 7 (.slice (some ⟨g, 0, none⟩) K.hd.packets.length K.cp) K.hd.packets.length (K.hd.packets.flatMap Pk.cells) := owns_keep hrow fun q e => g02.block q (owns_lt hrow e) (by simp)
    obtain ⟨x0, x1, x2, x3, x4, x5, xf⟩ := blk6 hX2
    obtain ⟨p0, p1, p2, p3, p4, p5, p6⟩ := pk_cells hrow2 F.here
    have hz2 := blk_lt hX2
    have hg2 : g < w2.heap.size := owns_lt hrow2 rfl
    have hkl' : (k : Int) < (K.hd.packets.length : Int) := by omega
    clear c2 c3 hf hfind
    go_wp2_with fail
    obtain ⟨w3, hw3⟩ : ∃ w3 : World, w3 = w2.alloc (.cells p.arr tPk) := ⟨_, rfl⟩
    rw [← hw3]
    have g3 : w.grownBy w3 none := by rw [hw3]; exact grown_alloc g02 _
    have hP3 : w3.heap[w2.heap.size]? = some (.cells p.arr tPk (0, 0)) := by rw [hw3]; exact heap_alloc_new w2 _
    have hR3 := (ref_same h g3).1
    obtain ⟨y0, y1, y2, y3, y4, y5, y6, yf⟩ := blk7 hP3
    obtain ⟨d0, d1, d2, d3, d4, d5, d6, d7, d8, d9, d10, d11, d12, d13, d14, d15, d16, d17, df⟩ := ch_cells hR3.blk
    have z3 := blk_lt hP3
    have hb3 := blk_lt hR3.blk
    clear x0 x1 x2 x3 x4 x5 xf p0 p1 p2 p3 p4 p5 p6 hw3 hrow2 hX2 hkl' d2 d3 d4 d5 d6 d7 d8 d9 d10 d11 d12 d13 d14 d15 d16 d17 df yf hR2
    go_region_held3 (fun w' => w'.cell? ⟨w2.heap.size, 0, none⟩ = some (.int .u64 p.seq) ∧ w'.cell? ⟨w2.heap.size, 1, none⟩ = some (.int .i64 p.src) ∧ w'.cell? ⟨w2.heap.size, 2, none⟩ = some (.int .i64 p.dst) ∧ w'.cell? ⟨w2.heap.size, 3, none⟩ = some (.int .i64 p.coin) ∧ w'.cell? ⟨w2.heap.size, 4, none⟩ = some (.int .u64 p.amount) ∧ w'.cell? ⟨w2.heap.size, 5, none⟩ = some (.int .u64 p.height) ∧ w'.cell? ⟨w2.heap.size, 6, none⟩ = some (.int .u64 p.time) ∧ w'.cell? ⟨b, 0, none⟩ = some (.int .u64 S.hd.height) ∧ w'.cell? ⟨b, 1, none⟩ = some (.int .u64 S.hd.time)) (go_keep)
      (first | (go_at_call 70; refine (rdue_any p S.hd.height S.hd.time _).mono ?_; rintro e w4 ⟨rfl, g4⟩; have e1 := cell_grown' g4 (b := w2.heap.size) z3; have e2 := cell_grown' g4 (b := b) hb3))
    all_goals
      have g04 : w.grownBy w4 none := grown_trans g3 (grown_trans (grown_drew (grown_refl w3 none)) g4 (fun k e => by cases e)) (fun k e => by cases e)
      have hP4 : w4.heap[w2.heap.size]? = some (.cells p.arr tPk (0, 0)) := (g4.block _ z3 (by simp)).trans hP3
      have hR4 := (ref_same h g04).1
      clear y0 y1 y2 y3 y4 y5 y6 d0 d1 e1 e2
      obtain ⟨y0, y1, y2, y3, y4, y5, y6, yf⟩ := blk7 hP4
      obtain ⟨d0, d1, d2, d3, d4, d5, d6, d7, d8, d9, d10, d11, d12, d13, d14, d15, d16, d17, df⟩ := ch_cells hR4.blk
      have z4 := blk_lt hP4
      have hb4 := blk_lt hR4.blk
      clear hR3 hP3
      have hR5 : ∀ w5, w5 = w4.setCell ⟨b, 3, none⟩ (.int .u64 (IntKind.u64.wrap (S.hd.nextRecv + 1))) → RefCh own o w5 b S.oneMore a ∧ Step own own o w w5 := by
        intro w5 e5
        rw [e5]
        refine cell_ref h (grown_set (grown_none g04 _) _ _ (.inl rfl)) ?_ ho rfl rfl rfl
        rw [setCell_same hR4.blk]
        rfl
      clear d0 d1 d2 d4 d5 d6 d7 d8 d9 d10 d11 d12 d13 d14 d15 d16 d17
      go_upto_region 15 with fail
      obtain ⟨w5, hw5⟩ : ∃ w5 : World, w5 = w4.setCell ⟨b, 3, none⟩ (.int .u64 (IntKind.u64.wrap (S.hd.nextRecv + 1))) := ⟨_, rfl⟩
      rw [← hw5]
      obtain ⟨hR6, s06⟩ := hR5 w5 hw5
      obtain ⟨w6, hw6⟩ : ∃ w6, w6 = w5 := ⟨_, rfl⟩
      rw [← hw6] at hR6 s06 ⊢
      obtain ⟨own6, a6, hoa⟩ : ∃ own6 a6, own6 = own ∧ a6 = a := ⟨_, _, rfl, rfl⟩
      clear hR5 hw5 d3 df y0 y1 y2 y3 y4 y5 y6 yf hw6
      obtain ⟨d0, d1, d2, d3, d4, d5, d6, d7, d8, d9, d10, d11, d12, d13, d14, d15, d16, d17, df⟩ := ch_cells hR6.blk
      change w6.cell? ⟨b, 5, none⟩ = some (.slice a.aa S.hd.answers.length a.ca) at d5
      have hb6 := blk_lt hR6.blk
      clear d0 d1 d2 d3 d4 d6 d7 d8 d9 d10 d11 d12 d13 d14 d15 d16 d17 hoa own6 a6
      go_wp2_with (at_builtin; refine wpList_append_rows rfl (.tmp 77) (.tmp 81) 58 rfl 149 i1 _ 2 16 Tryz.underlying58 hi1 z1 s1 t1 rfl (by decide) (.slice a.aa S.hd.answers.length a.ca) S.hd.answers.length (S.hd.answers.flatMap ansCells) ?hs ?ho (.slice (some ⟨w6.heap.size, 0, none⟩) 1 1) 1 [.int .u64 n, .bool false] ?hx ?hsrc ?h1 ?hb1 ?hb2 ?_)
      case hs => first | rfl | simp [Act.eval]
      case ho => exact hR6.an.alloc _
      case hx => first | rfl | simp [Act.eval]
      case hsrc => exact srcAns _ _ _ _
      case h1 => intro u hu; simp at hu; rcases hu with rfl | rfl <;> rfl
      case hb1 => omega
      case hb2 => omega
      intro v7 w7 own7 grow7 lab7
      obtain ⟨a7, k7, hv7⟩ := owns_form own7
      subst hv7
      have R := ans_done (x := (n, false)) hR6 ho grow7 own7 lab7
      have hnb : some b ≠ (Value.slice a.aa S.hd.answers.length a.ca).ownBlock := owns_ne hR6.blk hR6.an (by decide)
      have hB7 := (grow7.block b (by simp; omega) hnb).trans ((heap_alloc_old w6 _ hb6).trans hR6.blk)
      clear d5 df
      obtain ⟨d0, d1, d2, d3, d4, d5, d6, d7, d8, d9, d10, d11, d12, d13, d14, d15, d16, d17, df⟩ := ch_cells hB7
      clear d0 d1 d2 d3 d4 d6 d7 d8 d9 d10 d11 d12 d13 d14 d15 d16 d17
      go_wp2_with fail
      go_ret
      exact ⟨rfl, R.since' s06⟩

end

end Go.Proofs.YtmfdhcnnhlchbaaGreat
