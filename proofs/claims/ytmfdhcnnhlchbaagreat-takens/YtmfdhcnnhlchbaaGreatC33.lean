import Derived.Test.YtmfdhcnnhlchbaaGreatC31
import Derived.Test.YtmfdhcnnhlchbaaGreatC29
namespace Go.Proofs.YtmfdhcnnhlchbaaGreat
open Go.RowKit Go.Maps

section
variable {lab : Nat → Nat} {l : Nat} {w : World} {x q : Nat} {pre post : List Value} {S : Ch} {K : Hd} {a : DAt} {B : Nat}

/-- Plain cells of the chain have turned. -/
theorem dev_plain (h : DevCh lab l w x pre post S K a B) {w' : World} (g : w.grownBy w' (some x)) {S' : Ch} (hx : w'.heap[x]? = some (.cells (pre ++ dchCells S' K a ++ post).toArray tBr (0, 0)))
    (e1 : S'.hd.packets = S.hd.packets) (e2 : S'.hd.answers = S.hd.answers) (e3 : S'.hd.nextRecv = S.hd.nextRecv) (e4 : S'.nextSend = S.nextSend) (e5 : S'.heads = S.heads) (e6 : ∀ j, S'.get j = S.get j) : DevCh lab l w' x pre post S' K a B := by
  have hb : ∀ k, k < w.heap.size → k ≠ x → w'.heap[k]? = w.heap[k]? := fun k hk hkx => g.block k hk (by simpa using hkx)
  have row : ∀ {e size n : Nat} {v : Value} {xs : List Value}, w.ownsRow 0 e size v n xs → tBr ≠ e → w'.ownsRow 0 e size v n xs := fun r hne => owns_keep r fun k e => hb k (owns_lt r e) (fun e1 => owns_ne h.blk r hne (by rw [e, e1]))
  obtain ⟨g1, g2, g3, g4, g6, g7, g8, g9, g10, g11, ⟨L, g12, g12b⟩, g13, g14, g15, g16⟩ := h.good
  refine ⟨hx, h.lx, ?_, h.fund.keep (hb _ h.fund.lt (map_ne_blk h.fund h.blk)), h.kpk.keep (hb _ h.kpk.lt (map_ne_blk h.kpk h.blk)), h.kan.keep (hb _ h.kan.lt (map_ne_blk h.kan h.blk)), h.lmap, h.apart, row h.sent (by decide), h.lsent, row h.gone (by decide), h.lgone, row h.ans (by decide), h.lans, row h.heads (by decide), h.lheads,
    fun y hy => (h.each y hy).keep (fun k hk e => hb k hk (fun e1 => h.lx.2 (by rw [← e1]; exact e))) (fun _ _ => rfl), by rw [e5]; exact h.hsS, ?_, ⟨⟨by rw [e2, e3]; exact g1.recv, by rw [e2]; exact g1.ans, by rw [e1]; exact g1.seqs, by rw [e1]; exact g1.pos, by rw [e1]; exact g1.val, by rw [e1]; exact g1.lp, by rw [e2]; exact g1.la⟩,
      by rw [e4]; exact g2, by rw [e1, e4]; exact g3, by rw [e4]; exact g4, by rw [e5]; exact g6, by rw [e5]; exact g7, g8, g9, g10, g11, ⟨L, g12, ⟨by rw [e1]; exact g12b.p, by rw [e2]; exact g12b.a⟩⟩, g13, g14, g15, g16⟩, h.goodK⟩
  · rw [e1]; exact h.pend.keep (hb _ h.pend.lt (map_ne_blk h.pend h.blk))
  · intro u c
    rw [e6]
    exact h.fok u c

theorem owns_zero {w : World} {e size n cl : Nat} {al : Option Addr} {xs : List Value} (r : w.ownsRow 0 e size (.slice al n cl) n xs) : w.ownsRow 0 e size (.slice al 0 cl) 0 [] := by
  refine ⟨by simp, ?_⟩
  rcases r.2 with ⟨hv, _⟩ | ⟨g, cap, cur, hv, hb, hg, h1, h2, h3, _⟩
  · cases hv
    exact .inl ⟨rfl, rfl⟩
  · cases hv
    exact .inr ⟨g, cl, cur, rfl, hb, hg, Nat.zero_le _, h2, h3, by simp⟩

theorem own_len (al : Option Addr) (n m cl cl' : Nat) : (Value.slice al n cl).ownBlock = (Value.slice al m cl').ownBlock := by
  cases al <;> rfl

theorem told_snoc : ∀ (hs : List HdN) (L y : HdN), hs.getLast? = some L → Told hs → News L.hd y.hd y.sent y.gone y.ans → Told (hs ++ [y])
  | [], L, y, h, _, _ => by simp at h
  | [b], L, y, h, _, hn => by simp at h; subst h; exact ⟨hn, trivial⟩
  | b :: c :: r, L, y, h, ht, hn => by
    refine ⟨ht.1, ?_⟩
    exact told_snoc (c :: r) L y (by simpa using h) ht.2 hn

/-- The header is laid down. -/
theorem tick_done (h : DevCh lab l w x pre post S K a B) (hl : l ≠ 0) (hh : S.hd.height = S.heads.length) {w' : World} {y : HdN} (y1 : y.hd = S.hd) (y2 : y.sent = a.sent) (y3 : y.gone = a.gone) (y4 : y.ans = a.ans) (t : Turned x none a.vh.ownBlock w w')
    (r1 : w'.ownsRow 0 tPk 7 y.vs y.sent.length (y.sent.flatMap Pk.cells)) (f1 : ∀ k, y.vs.ownBlock = some k → w.heap.size ≤ k) (r2 : w'.ownsRow 0 tU64 1 y.vg y.gone.length (y.gone.map encU)) (f2 : ∀ k, y.vg.ownBlock = some k → w.heap.size ≤ k)
    (r3 : w'.ownsRow 0 tAnsw 1 y.va y.ans.length (y.ans.map ansV)) (f3 : ∀ k, y.va.ownBlock = some k → w.heap.size ≤ k) (a4 : Option Addr) (k4 : Nat)
    (hx : w'.heap[x]? = some (.cells (pre ++ dchCells { S with heads := S.heads ++ [S.hd] } K { a.empty with hs := a.hs ++ [y], ah := a4, ch := k4 } ++ post).toArray tBr (0, 0)))
    (hR : w'.ownsRow 0 tHeader 9 (.slice a4 (a.hs.length + 1) k4) (a.hs.length + 1) (a.hs.flatMap HdN.cells ++ y.cells)) (hf : ∀ k, (Value.slice a4 (a.hs.length + 1) k4).ownBlock = some k → k < w.heap.size → lab k = l) :
    DevTo lab l w x pre post { S with heads := S.heads ++ [S.hd] } K (B + 1) w' := by
  obtain ⟨L, hL, hN⟩ := h.good.news
  have hlen : a.hs.length = S.heads.length := by rw [← h.hsS]; simp
  have h0 := h.good.mono (Nat.le_succ B)
  have old : ∀ {v : Value} {e size n : Nat} {xs : List Value} {k : Nat}, w.ownsRow 0 e size v n xs → v.ownBlock = some k → k < w.heap.size := fun r e => owns_lt r e
  refine dev_build (a' := { a.empty with hs := a.hs ++ [y], ah := a4, ch := k4 }) h hl t.os t.tape t.output t.size (t.keep (fun k e => by cases e) (fun k e => h.lheads k e)) hx ⟨rfl, rfl, rfl, rfl⟩ ?_ ?_ ?_ ?_ ?_ ?_ ?_ ?_ ?_ ?_ ?_ ?_ ?_ ?_ h.fok ?_ (h.goodK.mono (Nat.le_succ B))
  · exact t.map h.blk h.pend (by simp) (map_ne_row h.pend h.heads)
  · exact t.map h.blk h.fund (by simp) (map_ne_row h.fund h.heads)
  · exact t.map h.blk h.kpk (by simp) (map_ne_row h.kpk h.heads)
  · exact t.map h.blk h.kan (by simp) (map_ne_row h.kan h.heads)
  · exact owns_zero (t.row h.blk h.sent (by decide) (fun e => absurd rfl e) (row_apart h.sent h.heads (by decide)))
  · exact fun k e _ => h.lsent k ((own_len _ _ _ _ _).trans e)
  · exact owns_zero (t.row h.blk h.gone (by decide) (fun e => absurd rfl e) (row_apart h.gone h.heads (by decide)))
  · exact fun k e _ => h.lgone k ((own_len _ _ _ _ _).trans e)
  · exact owns_zero (t.row h.blk h.ans (by decide) (fun e => absurd rfl e) (row_apart h.ans h.heads (by decide)))
  · exact fun k e _ => h.lans k ((own_len _ _ _ _ _).trans e)
  · simpa [DAt.vh] using hR
  · intro k e; exact hf k (by simpa [DAt.vh] using e)
  · intro z hz
    simp only [List.mem_append, List.mem_singleton] at hz
    rcases hz with hz | rfl
    · exact .inl hz
    · refine .inr ⟨⟨r1, fun k e => ⟨f1 k e, fun e1 => ?_⟩⟩, ⟨r2, fun k e => ⟨f2 k e, fun e1 => ?_⟩⟩, r3, fun k e => ⟨f3 k e, fun e1 => ?_⟩⟩
      · have h1 := f1 k e; have h2 : k < w.heap.size := old h.sent ((own_len _ _ _ _ _).trans e1.symm); omega
      · have h1 := f2 k e; have h2 : k < w.heap.size := old h.gone ((own_len _ _ _ _ _).trans e1.symm); omega
      · have h1 := f3 k e; have h2 : k < w.heap.size := old h.ans ((own_len _ _ _ _ _).trans e1.symm); omega
  · show (a.hs ++ [y]).map HdN.hd = S.heads ++ [S.hd]
    rw [List.map_append, h.hsS]
    simp [y1]
  · refine ⟨h0.hd, h0.send, h0.below, fun k hk => by simp at hk, ?_, ?_, by simp, by simp, by simp, h0.lf, ⟨y, by simp, ⟨fun k => ?_, ?_⟩⟩, ?_, ?_, fun p hp => by simp at hp, ?_⟩
    · intro i z hz
      simp only at hz
      by_cases e : i < S.heads.length
      · rw [List.getElem?_append_left e] at hz
        exact h0.heads i z hz
      · have hi : i < (S.heads ++ [S.hd]).length := (List.getElem?_eq_some_iff.1 hz).1
        simp at hi
        obtain rfl : i = S.heads.length := by omega
        simp at hz
        subst hz
        exact ⟨hh, h0.hd⟩
    · have := h.good.lh; simp; omega
    · show pkF S.hd.packets k = learnP (pkF y.hd.packets) [] [] k
      rw [y1]; rfl
    · show S.hd.answers = y.hd.answers ++ num y.hd.nextRecv []
      rw [y1]; simp [num]
    · exact told_snoc a.hs L y hL h.good.told (by rw [y1, y2, y3, y4]; exact hN)
    · intro z hz
      simp only [List.mem_append, List.mem_singleton] at hz
      rcases hz with hz | rfl
      · exact h0.lens z hz
      · rw [y2, y3, y4]
        exact ⟨h0.ls, h0.lg, h0.lan, fun k hk => by have h1 := h.good.gone k hk; have h2 := h.good.send; omega⟩
    · intro z hz
      simp only [List.mem_append, List.mem_singleton] at hz
      rcases hz with hz | rfl
      · exact h0.hseq z hz
      · rw [y2]; exact h0.sseq

theorem step_x {w w1 : World} (g : w.grownBy w1 (some x)) (hs : w1.heap.size = w.heap.size) : StepL l x lab lab w w1 :=
  ⟨g.os, g.tape, g.output, g.size, fun _ _ => rfl, fun k hk _ hx => g.block k hk (by simpa using hx), fun k h1 h2 => by omega⟩

theorem owns_app {w2 w4 : World} {X : Obj} {e size n : Nat} {v vh u : Value} {xs xh : List Value} {nh off : Nat} {c : Array Value} (r : w2.ownsRow 0 e size v n xs) (rh : w2.ownsRow 0 tHeader 9 vh nh xh) (hne : e ≠ tHeader) (hnb : tBr ≠ e) (hx : w2.heap[x]? = some (.cells c tBr (0, 0))) (g : (w2.alloc X).grownBy w4 vh.ownBlock) :
    (w4.setCell ⟨x, off, none⟩ u).ownsRow 0 e size v n xs := by
  refine owns_keep r fun k e1 => ?_
  have hk := owns_lt r e1
  rw [setCell_other _ _ _ (fun e2 => owns_ne hx r hnb (by rw [e1, e2])), g.block k (by simp; omega) (row_apart r rh hne k e1)]
  exact heap_alloc_old w2 X hk

theorem tick_end {w1 w2 w4 : World} {n : Int} {y : HdN} {X : Obj} {a4 : Option Addr} {k4 : Nat} (h1 : DevCh lab l w1 x pre post (S.later n) K a B) (hl : l ≠ 0) (hq : pre.length = q) (hh : (S.later n).hd.height = (S.later n).heads.length) (g1 : w.grownBy w1 (some x)) (hsz : w1.heap.size = w.heap.size)
    (HT : w2.ownsRow 0 tHeader 9 (.slice a.ah a.hs.length a.ch) a.hs.length (a.hs.flatMap HdN.cells) ∧ y.hd = (S.later n).hd ∧ y.sent = a.sent ∧ y.gone = a.gone ∧ y.ans = a.ans ∧
          (w2.ownsRow 0 tPk 7 y.vs y.sent.length (y.sent.flatMap Pk.cells) ∧ ∀ k, y.vs.ownBlock = some k → w1.heap.size ≤ k) ∧ (w2.ownsRow 0 tU64 1 y.vg y.gone.length (y.gone.map encU) ∧ ∀ k, y.vg.ownBlock = some k → w1.heap.size ≤ k) ∧ (w2.ownsRow 0 tAnsw 1 y.va y.ans.length (y.ans.map ansV) ∧ ∀ k, y.va.ownBlock = some k → w1.heap.size ≤ k) ∧
          w2.heap[x]? = some (.cells (pre ++ dchCells (S.later n) K a.empty ++ post).toArray tBr (0, 0)) ∧ w1.drew.grownBy w2 (some x))
    (grow4 : (w2.alloc X).grownBy w4 (Value.slice a.ah a.hs.length a.ch).ownBlock) (own4 : w4.ownsRow 0 tHeader 9 (.slice a4 (a.hs.length + 1) k4) (a.hs.length + 1) (a.hs.flatMap HdN.cells ++ y.cells)) (lab4 : fresh (w2.alloc X) (.slice a.ah a.hs.length a.ch) (.slice a4 (a.hs.length + 1) k4)) :
    DevTo lab l w x pre post { S.later n with heads := S.heads ++ [(S.later n).hd] } K (B + 1) (w4.setCell ⟨x, q + 13, none⟩ (.slice a4 (a.hs.length + 1) k4)) := by
  obtain ⟨rh, y1, y2, y3, y4, ⟨r1, f1⟩, ⟨r2, f2⟩, ⟨r3, f3⟩, hB2, g2⟩ := HT
  have hB4 := app_keep0 hB2 grow4 (owns_ne hB2 rh (by decide))
  refine DevTo.trans (step_x g1 hsz) ?_
  refine tick_done h1 hl hh y1 y2 y3 y4 (Turned.app0 (turned_drew (turned_x g2)) grow4 rfl) (owns_app r1 rh (by decide) (by decide) hB2 grow4) f1 (owns_app r2 rh (by decide) (by decide) hB2 grow4) f2 (owns_app r3 rh (by decide) (by decide) hB2 grow4) f3 a4 k4 ?_ ?_ ?_
  · have := blkq_set hB4 hq 13 (by simp [dchCells]) (.slice a4 (a.hs.length + 1) k4)
    simpa [dchCells, DAt.vs, DAt.vg, DAt.va, DAt.vh] using this
  · exact owns_keep own4 fun k e => setCell_other _ _ _ (fun e1 => owns_ne hB4 own4 (by decide) (by rw [e, e1]))
  · exact lab_fresh h1.lheads lab4 (by have := g2.size; simp at *; omega)

theorem infoHeader : (Tryz.prog.info? 107).map (fun i => (i.zero, i.size, i.bytes)) = some (some (.agg hdrNil), 9, 120) := by kernel_rfl

set_option maxRecDepth 100000 in
set_option maxHeartbeats 1600000 in
theorem tick_any (h : DevCh lab l w x pre post S K a B) (hl : l ≠ 0) (hq : pre.length = q) (hB : B ≤ 9000000) (hh : S.hd.height + 1 = S.heads.length) (n : Int) :
    Calls Tryz.prog 60 #[.pointer (some ⟨x, q, none⟩), .int .u64 n] w fun e w' => e = .returned (.int .i64 (tickC S n).2.2) ∧ DevTo lab l w x pre post (tickC S n).1 K (B + 4) w' := by
  have hxl : x < w.heap.size := blk_lt h.blk
  obtain ⟨c0, c1, c2, c3, c4, c5, c6, c7, c8, c9, c10, c11, c12, c13, c14, c15, c16, c17, c18, c19, c20, c21, cf⟩ := dch_cells h.blk hq
  unfold tickC
  by_cases ht : IntKind.u64.wrap (18446744073709551615 - S.hd.time) < n
  · rw [if_pos ht]
    go_enter Tryz.func60, Tryz.ntmps60
    go_wp2_with fail
    go_ret
    exact ⟨rfl, lab, a, h.mono (by omega), StepL.refl _ _ _ _⟩
  · rw [if_neg ht]
    obtain ⟨w1, hw1⟩ : ∃ w1 : World, w1 = (w.setCell ⟨x, q + 9, none⟩ (.int .u64 (IntKind.u64.wrap (S.hd.time + n)))).setCell ⟨x, q + 8, none⟩ (.int .u64 (IntKind.u64.wrap (S.hd.height + 1))) := ⟨_, rfl⟩
    have g1 : w.grownBy w1 (some x) := by rw [hw1]; exact grown_set (grown_set (grown_refl w _) ⟨x, q + 9, none⟩ _ (.inl rfl)) ⟨x, q + 8, none⟩ _ (.inl rfl)
    have hsz : w1.heap.size = w.heap.size := by rw [hw1, setCell_size, setCell_size]
    have hB1 : w1.heap[x]? = some (.cells (pre ++ dchCells (S.later n) K a ++ post).toArray tBr (0, 0)) := by
      rw [hw1]
      exact blkq_set (blkq_set h.blk hq 9 (by simp [dchCells]) _) hq 8 (by simp [dchCells]) _
    have h1 : DevCh lab l w1 x pre post (S.later n) K a B := dev_plain h g1 hB1 rfl rfl rfl rfl rfl (fun _ => rfl)
    have hhl := h.good.lh
    have hwh : (S.later n).hd.height = (S.later n).heads.length := by
      show IntKind.u64.wrap (S.hd.height + 1) = (S.heads.length : Int)
      rw [hh]
      simp [IntKind.wrap, IntKind.bits, IntKind.signed]
      omega
    have HH : Hid ((S.later n).hd.height = (S.later n).heads.length) := hwh
    clear hwh hh
    have h1d : DevCh lab l w1.drew x pre post (S.later n) K a B := h1.grown (grown_drew (grown_refl w1 none))
    have htell := tell_any h1d hq (by omega)
    have hcall : Calls Tryz.prog 46 #[.pointer (some ⟨x, q, none⟩)] w1.drew fun e w2 => ∃ y : HdN, e = .returned (.agg #[.int .u64 y.hd.height, .int .u64 y.hd.time, .bool y.hd.isOpen, .int .u64 y.hd.nextRecv, .int .i64 y.hd.packets.length, .int .i64 y.hd.answers.length, .slice y.ap y.sent.length y.cp, .slice y.ag y.gone.length y.cg, .slice y.aa y.ans.length y.ca]) ∧
        w2.cell? ⟨x, q + 13, none⟩ = some (.slice a.ah a.hs.length a.ch) ∧ (∀ k, w2.frozen? ⟨x, k, none⟩ = false) ∧ x < w2.heap.size ∧ Hid (Tells w1.drew x pre post (S.later n) K a (.returned y.agg) w2 ∧ w2.ownsRow 0 tHeader 9 (.slice a.ah a.hs.length a.ch) a.hs.length (a.hs.flatMap HdN.cells) ∧ y.hd = (S.later n).hd ∧ y.sent = a.sent ∧ y.gone = a.gone ∧ y.ans = a.ans ∧
          (w2.ownsRow 0 tPk 7 y.vs y.sent.length (y.sent.flatMap Pk.cells) ∧ ∀ k, y.vs.ownBlock = some k → w1.heap.size ≤ k) ∧ (w2.ownsRow 0 tU64 1 y.vg y.gone.length (y.gone.map encU) ∧ ∀ k, y.vg.ownBlock = some k → w1.heap.size ≤ k) ∧ (w2.ownsRow 0 tAnsw 1 y.va y.ans.length (y.ans.map ansV) ∧ ∀ k, y.va.ownBlock = some k → w1.heap.size ≤ k) ∧
          w2.heap[x]? = some (.cells (pre ++ dchCells (S.later n) K a.empty ++ post).toArray tBr (0, 0)) ∧ w1.drew.grownBy w2 (some x)) := by
      refine htell.mono ?_
      rintro e w2 ht2
      obtain ⟨y, y1, y2, y3, y4, rfl, r1, r2, r3, r4, r5⟩ := id ht2
      obtain ⟨d0, d1, d2, d3, d4, d5, d6, d7, d8, d9, d10, d11, d12, d13, d14, d15, d16, d17, d18, d19, d20, d21, df⟩ := dch_cells r4 hq
      exact ⟨y, rfl, d13, df, blk_lt r4, ht2, owns_keep h1d.heads fun k e => r5.block k (owns_lt h1d.heads e) (fun e1 => owns_ne h1d.blk h1d.heads (by decide) (by rw [e, e1])), y1, y2, y3, y4, r1, r2, r3, r4, r5⟩
    obtain ⟨i0, hi0, z0, s0, y0⟩ := info_parts infoHeader
    have hlh : a.hs.length ≤ B + 1 := by rw [show a.hs.length = S.heads.length from by rw [← h.hsS]; simp]; exact hhl
    go_enter Tryz.func60, Tryz.ntmps60
    go_wp2_with fail
    rw [← hw1]
    clear c0 c1 c2 c3 c4 c5 c6 c7 c8 c9 c10 c11 c12 c13 c14 c15 c16 c17 c18 c19 c20 c21 cf hw1
    obtain ⟨c0, c1, c2, c3, c4, c5, c6, c7, c8, c9, c10, c11, c12, c13, c14, c15, c16, c17, c18, c19, c20, c21, cf⟩ := dch_cells hB1 hq
    clear c0 c1 c2 c3 c4 c5 c6 c7 c8 c9 c10 c11 c12 c14 c15 c16 c17 c18 c19 c20 c21
    refine wp_region_any (by kernel_rfl) ?_
    refine wpAny_take (i := 0) (v := ?v0) rfl (by kernel_rfl) (by kernel_rfl) (by kernel_rfl) (fun _ _ _ h => h) (Or.inl ⟨by rfl, ?hy0⟩) ?rest0
    case hy0 =>
      intro w
      go_simp
      with_reducible rfl
    refine wpAny_take (i := 1) (v := ?v1) rfl (by kernel_rfl) (by kernel_rfl) (by kernel_rfl) (fun _ _ _ h => h) (Or.inl ⟨by rfl, ?hy1⟩) ?rest1
    case hy1 =>
      intro w
      go_simp
      with_reducible rfl
    refine wpAny_take (i := 2) (v := ?v2) rfl (by kernel_rfl) (by kernel_rfl) (by kernel_rfl) (fun _ _ _ h => h) (Or.inl ⟨by rfl, ?hy2⟩) ?rest2
    case hy2 =>
      intro w
      go_simp
      with_reducible rfl
    refine wpAny_take (i := 3) (v := ?v3) rfl (by kernel_rfl) (by kernel_rfl) (by kernel_rfl) (fun _ _ _ h => h) (Or.inl ⟨by rfl, ?hy3⟩) ?rest3
    case hy3 =>
      intro w
      go_simp
      with_reducible rfl
    refine wpAny_take (i := 5) (v := ?v5) rfl (by kernel_rfl) (by kernel_rfl) (by kernel_rfl) (fun _ _ _ h => h) (Or.inl ⟨by rfl, ?hy5⟩) ?rest5
    case hy5 =>
      intro w
      go_simp
      with_reducible rfl
    refine wpAny_ready (rs := [4, 6]) (by kernel_rfl) (by simp) ?_
    refine AllReady.cons (o := _) rfl (fun K hK => ?_) (AllReady.cons (o := _) rfl (fun K hK => ?_) AllReady.nil)
    · skip
      go_simp
      refine hK _ _ ?_
      clear hK K
      refine wpAny_ready (rs := [6]) (by kernel_rfl) (by simp) ?_
      refine AllReady.cons (o := _) rfl (fun K hK => ?_) AllReady.nil
      go_simp
      refine hcall.mono ?_
      rintro e w2 ⟨y, rfl, d13, df, dx, HT⟩
      refine hK _ _ ?_
      clear hK K
      refine wpAny_ready (rs := [7]) (by kernel_rfl) (by simp) ?_
      refine AllReady.cons (o := _) rfl (fun K hK => ?_) AllReady.nil
      go_simp
      refine hK _ _ ?_
      clear hK K
      refine wpAny_ready (rs := [8]) (by kernel_rfl) (by simp) ?_
      refine AllReady.cons (o := _) rfl (fun K hK => ?_) AllReady.nil
      refine step_append_rows rfl (.tmp 31) (.tmp 34) 90 rfl 107 i0 _ 9 120 Tryz.underlying90 hi0 z0 s0 y0 rfl (by decide) (.slice a.ah a.hs.length a.ch) a.hs.length (a.hs.flatMap HdN.cells) (by simp [Act.eval]) (HT.2.1.alloc _) (.slice (some ⟨w2.heap.size, 0, none⟩) 1 1) 1 y.cells (by simp [Act.eval]) (src_row y.cells rfl) (by intro u hu; simp only [HdN.cells, List.mem_cons, List.not_mem_nil, or_false] at hu; rcases hu with rfl | rfl | rfl | rfl | rfl | rfl | rfl | rfl | rfl <;> rfl) (by omega) (by omega) ?_
      intro v4 w4 own4 grow4 lab4
      obtain ⟨a4, k4, hv4⟩ := owns_form own4
      subst hv4
      have hB4 := app_keep0 HT.2.2.2.2.2.2.2.2.2.1 grow4 (owns_ne HT.2.2.2.2.2.2.2.2.2.1 HT.2.1 (by decide))
      obtain ⟨e0, e1, e2, e3, e4, e5, e6, e7, e8, e9, e10, e11, e12, e13, e14, e15, e16, e17, e18, e19, e20, e21, ef⟩ := dch_cells hB4 hq
      clear e0 e1 e2 e3 e4 e5 e6 e7 e8 e9 e10 e11 e12 e14 e15 e16 e17 e18 e19 e20 e21
      refine hK _ _ ?_
      clear hK K
      refine wpAny_take (i := 9) (v := ?v9a) rfl (by kernel_rfl) (by kernel_rfl) (by kernel_rfl) (fun _ _ _ h => h) (Or.inl ⟨by rfl, ?hy9a⟩) ?rest9a
      case hy9a =>
        intro w
        go_simp
        with_reducible rfl
      refine wpAny_take (i := 10) (v := ?v10a) rfl (by kernel_rfl) (by kernel_rfl) (by kernel_rfl) (fun _ _ _ h => h) (Or.inl ⟨by rfl, ?hy10a⟩) ?rest10a
      case hy10a =>
        intro w
        go_simp
        with_reducible rfl
      refine wpAny_ready (rs := [11]) (by kernel_rfl) (by simp) ?_
      refine AllReady.cons (o := _) rfl (fun K hK => ?_) AllReady.nil
      go_simp
      refine hK _ _ ?_
      clear hK K
      refine wpAny_done (by kernel_rfl) ?_ _
      go_wp2_with fail
      go_ret
      refine ⟨rfl, ?_⟩
      exact (tick_end h1 hl hq HH.out g1 hsz HT.2 grow4 own4 lab4).mono (by omega)
    · skip
      go_simp
      refine hcall.mono ?_
      rintro e w2 ⟨y, rfl, d13, df, dx, HT⟩
      refine hK _ _ ?_
      clear hK K
      refine wpAny_ready (rs := [4, 7]) (by kernel_rfl) (by simp) ?_
      refine AllReady.cons (o := _) rfl (fun K hK => ?_) (AllReady.cons (o := _) rfl (fun K hK => ?_) AllReady.nil)
      · skip
        go_simp
        refine hK _ _ ?_
        clear hK K
        refine wpAny_ready (rs := [7]) (by kernel_rfl) (by simp) ?_
        refine AllReady.cons (o := _) rfl (fun K hK => ?_) AllReady.nil
        go_simp
        refine hK _ _ ?_
        clear hK K
        refine wpAny_ready (rs := [8]) (by kernel_rfl) (by simp) ?_
        refine AllReady.cons (o := _) rfl (fun K hK => ?_) AllReady.nil
        refine step_append_rows rfl (.tmp 31) (.tmp 34) 90 rfl 107 i0 _ 9 120 Tryz.underlying90 hi0 z0 s0 y0 rfl (by decide) (.slice a.ah a.hs.length a.ch) a.hs.length (a.hs.flatMap HdN.cells) (by simp [Act.eval]) (HT.2.1.alloc _) (.slice (some ⟨w2.heap.size, 0, none⟩) 1 1) 1 y.cells (by simp [Act.eval]) (src_row y.cells rfl) (by intro u hu; simp only [HdN.cells, List.mem_cons, List.not_mem_nil, or_false] at hu; rcases hu with rfl | rfl | rfl | rfl | rfl | rfl | rfl | rfl | rfl <;> rfl) (by omega) (by omega) ?_
        intro v4 w4 own4 grow4 lab4
        obtain ⟨a4, k4, hv4⟩ := owns_form own4
        subst hv4
        have hB4 := app_keep0 HT.2.2.2.2.2.2.2.2.2.1 grow4 (owns_ne HT.2.2.2.2.2.2.2.2.2.1 HT.2.1 (by decide))
        obtain ⟨e0, e1, e2, e3, e4, e5, e6, e7, e8, e9, e10, e11, e12, e13, e14, e15, e16, e17, e18, e19, e20, e21, ef⟩ := dch_cells hB4 hq
        clear e0 e1 e2 e3 e4 e5 e6 e7 e8 e9 e10 e11 e12 e14 e15 e16 e17 e18 e19 e20 e21
        refine hK _ _ ?_
        clear hK K
        refine wpAny_take (i := 9) (v := ?v9b) rfl (by kernel_rfl) (by kernel_rfl) (by kernel_rfl) (fun _ _ _ h => h) (Or.inl ⟨by rfl, ?hy9b⟩) ?rest9b
        case hy9b =>
          intro w
          go_simp
          with_reducible rfl
        refine wpAny_take (i := 10) (v := ?v10b) rfl (by kernel_rfl) (by kernel_rfl) (by kernel_rfl) (fun _ _ _ h => h) (Or.inl ⟨by rfl, ?hy10b⟩) ?rest10b
        case hy10b =>
          intro w
          go_simp
          with_reducible rfl
        refine wpAny_ready (rs := [11]) (by kernel_rfl) (by simp) ?_
        refine AllReady.cons (o := _) rfl (fun K hK => ?_) AllReady.nil
        go_simp
        refine hK _ _ ?_
        clear hK K
        refine wpAny_done (by kernel_rfl) ?_ _
        go_wp2_with fail
        go_ret
        refine ⟨rfl, ?_⟩
        exact (tick_end h1 hl hq HH.out g1 hsz HT.2 grow4 own4 lab4).mono (by omega)
      · skip
        go_simp
        refine hK _ _ ?_
        clear hK K
        refine wpAny_ready (rs := [4]) (by kernel_rfl) (by simp) ?_
        refine AllReady.cons (o := _) rfl (fun K hK => ?_) AllReady.nil
        go_simp
        refine hK _ _ ?_
        clear hK K
        refine wpAny_ready (rs := [8]) (by kernel_rfl) (by simp) ?_
        refine AllReady.cons (o := _) rfl (fun K hK => ?_) AllReady.nil
        refine step_append_rows rfl (.tmp 31) (.tmp 34) 90 rfl 107 i0 _ 9 120 Tryz.underlying90 hi0 z0 s0 y0 rfl (by decide) (.slice a.ah a.hs.length a.ch) a.hs.length (a.hs.flatMap HdN.cells) (by simp [Act.eval]) (HT.2.1.alloc _) (.slice (some ⟨w2.heap.size, 0, none⟩) 1 1) 1 y.cells (by simp [Act.eval]) (src_row y.cells rfl) (by intro u hu; simp only [HdN.cells, List.mem_cons, List.not_mem_nil, or_false] at hu; rcases hu with rfl | rfl | rfl | rfl | rfl | rfl | rfl | rfl | rfl <;> rfl) (by omega) (by omega) ?_
        intro v4 w4 own4 grow4 lab4
        obtain ⟨a4, k4, hv4⟩ := owns_form own4
        subst hv4
        have hB4 := app_keep0 HT.2.2.2.2.2.2.2.2.2.1 grow4 (owns_ne HT.2.2.2.2.2.2.2.2.2.1 HT.2.1 (by decide))
        obtain ⟨e0, e1, e2, e3, e4, e5, e6, e7, e8, e9, e10, e11, e12, e13, e14, e15, e16, e17, e18, e19, e20, e21, ef⟩ := dch_cells hB4 hq
        clear e0 e1 e2 e3 e4 e5 e6 e7 e8 e9 e10 e11 e12 e14 e15 e16 e17 e18 e19 e20 e21
        refine hK _ _ ?_
        clear hK K
        refine wpAny_take (i := 9) (v := ?v9c) rfl (by kernel_rfl) (by kernel_rfl) (by kernel_rfl) (fun _ _ _ h => h) (Or.inl ⟨by rfl, ?hy9c⟩) ?rest9c
        case hy9c =>
          intro w
          go_simp
          with_reducible rfl
        refine wpAny_take (i := 10) (v := ?v10c) rfl (by kernel_rfl) (by kernel_rfl) (by kernel_rfl) (fun _ _ _ h => h) (Or.inl ⟨by rfl, ?hy10c⟩) ?rest10c
        case hy10c =>
          intro w
          go_simp
          with_reducible rfl
        refine wpAny_ready (rs := [11]) (by kernel_rfl) (by simp) ?_
        refine AllReady.cons (o := _) rfl (fun K hK => ?_) AllReady.nil
        go_simp
        refine hK _ _ ?_
        clear hK K
        refine wpAny_done (by kernel_rfl) ?_ _
        go_wp2_with fail
        go_ret
        refine ⟨rfl, ?_⟩
        exact (tick_end h1 hl hq HH.out g1 hsz HT.2 grow4 own4 lab4).mono (by omega)

end

end Go.Proofs.YtmfdhcnnhlchbaaGreat

namespace Go.Proofs.YtmfdhcnnhlchbaaGreat
open Go.RowKit Go.Maps

/-- How many entries a map has that says what a list says. -/
theorem MapIs.count {α : Type} {w : World} {b n : Nat} (l : List α) (key : α → Int) (val : α → Value) {f : Int → Option Value} (h : MapIs Tryz.prog tU64 encU w b f n) (hf : ∀ k, f k = (l.find? fun p => key p == k).map val) (hnd : (l.map key).Nodup) (hr : ∀ p ∈ l, 0 ≤ key p ∧ key p < 18446744073709551616) : n = l.length := by
  obtain ⟨D, hown, hsz, hsay⟩ := h
  obtain ⟨es, hD, hap, hkl⟩ := hown.entries lawU
  have keys : ∀ kl, Maps.has D kl = true → ∃ z, kl = .int .u64 z ∧ keyOf Tryz.prog tU64 (encU z) = some kl := by
    intro kl hh
    obtain ⟨es0, clock, _, F, _, hD0⟩ := hown
    rw [hD0] at hh
    obtain ⟨p, hp, hpk⟩ := List.any_eq_true.1 hh
    obtain ⟨y, hy, rfl⟩ := List.mem_map.1 (mem_sorted.1 hp)
    obtain ⟨u, hu⟩ := F.reads y hy
    rw [WideElems.rg_of hu] at hpk
    have e := WideAt.sameKey_eq hpk
    have hk := WideElems.rd_key hu
    obtain ⟨z, hz, hz2, _⟩ := Maps.keyOf_int_inv Tryz.underlying26 hk
    refine ⟨z, by rw [← e]; exact hz2, ?_⟩
    rw [← e]
    show keyOf Tryz.prog tU64 (.int .u64 z) = _
    rw [← hz]
    exact hk
  have hasD : ∀ kl, Maps.has D kl = true ↔ kl ∈ es.map (fun p => p.1) := by
    intro kl
    rw [hD, Maps.has_eq, List.any_eq_true]
    constructor
    · rintro ⟨p, hp, e⟩
      exact List.mem_map.2 ⟨p, hp, WideAt.sameKey_eq e⟩
    · intro hm
      obtain ⟨p, hp, rfl⟩ := List.mem_map.1 hm
      exact ⟨p, hp, WideAt.sameKey_self (hkl p hp)⟩
  have fsome : ∀ z, (f z).isSome = true ↔ ∃ p ∈ l, key p = z := by
    intro z
    rw [hf z, Option.isSome_map, List.find?_isSome]
    constructor
    · rintro ⟨p, hp, e⟩; exact ⟨p, hp, by simpa using e⟩
    · rintro ⟨p, hp, e⟩; exact ⟨p, hp, by simpa using e⟩
  have hmem : ∀ kl, kl ∈ es.map (fun p => p.1) ↔ kl ∈ l.map (fun p => Lit.int .u64 (key p)) := by
    intro kl
    rw [← hasD]
    constructor
    · intro hh
      obtain ⟨z, rfl, hz⟩ := keys kl hh
      rw [(hsay z _ hz).1] at hh
      obtain ⟨p, hp, e⟩ := (fsome z).1 hh
      exact List.mem_map.2 ⟨p, hp, by rw [e]⟩
    · intro hm
      obtain ⟨p, hp, rfl⟩ := List.mem_map.1 hm
      rw [(hsay (key p) _ (keyU (hr p hp).1 (hr p hp).2)).1]
      exact (fsome _).2 ⟨p, hp, rfl⟩
  have n1 : (es.map (fun p => p.1)).Nodup := by
    rw [List.Nodup, List.pairwise_map]
    exact hap
  have n2 : (l.map (fun p => Lit.int .u64 (key p))).Nodup := by
    rw [List.Nodup, List.pairwise_map]
    rw [List.Nodup, List.pairwise_map] at hnd
    exact hnd.imp (fun h e => h (by simpa using e))
  have := ((List.perm_ext_iff_of_nodup n1 n2).2 hmem).length_eq
  simp only [List.length_map] at this
  rw [← hsz, hD, Maps.size_eq, this]

theorem count_pk {w : World} {b n : Nat} {f : Int → Option Value} {hd : Hd} {B : Nat} (h : MapIs Tryz.prog tU64 encU w b f n) (hf : ∀ k, pkF hd.packets k = f k) (g : GoodHd hd B) (hB : B ≤ 10000000) : MapIs Tryz.prog tU64 encU w b (pkF hd.packets) hd.packets.length := by
  refine (h.cong (fun k _ _ => hf k)).congN (h.count hd.packets Pk.seq Pk.agg (fun k => (hf k).symm) ?_ (fun p hp => ?_))
  · rw [List.Nodup, List.pairwise_map]
    exact g.seqs.imp (fun h e => by omega)
  · have := g.pos p hp; omega

theorem count_ans {w : World} {b n : Nat} {f : Int → Option Value} {hd : Hd} {B : Nat} (h : MapIs Tryz.prog tU64 encU w b f n) (hf : ∀ k, ansF hd.answers k = f k) (g : GoodHd hd B) (hB : B ≤ 10000000) : MapIs Tryz.prog tU64 encU w b (ansF hd.answers) hd.answers.length := by
  refine (h.cong (fun k _ _ => hf k)).congN (h.count hd.answers (fun a => a.1) (fun a => ansV a.2) (fun k => (hf k).symm) ?_ (fun p hp => ?_))
  · rw [List.Nodup, List.pairwise_map, List.pairwise_iff_getElem]
    intro i j hi hj hij e
    have h1 := g.ans i _ (List.getElem?_eq_getElem hi)
    have h2 := g.ans j _ (List.getElem?_eq_getElem hj)
    omega
  · obtain ⟨i, hi⟩ := List.getElem?_of_mem hp
    have h1 := g.ans i _ hi
    have h2 := (List.getElem?_eq_some_iff.1 hi).1
    have h3 := g.la
    omega

theorem ansF_snoc {l : List (Int × Bool)} {n : Int} {b : Bool} (h : ∀ a ∈ l, a.1 < n) (k : Int) : ansF (l ++ [(n, b)]) k = putF (ansF l) n (ansV b) k := by
  unfold ansF putF
  rw [List.find?_append]
  by_cases e : k = n
  · subst e
    have : l.find? (fun a => a.1 == k) = none := by
      rw [List.find?_eq_none]
      intro a ha
      have := h a ha
      simp
      omega
    rw [this]
    simp
  · rw [if_neg e]
    have : (n == k) = false := by simp; exact fun e1 => e e1.symm
    simp [this]

theorem num_lt : ∀ (l : List Bool) (n : Int), ∀ a ∈ num n l, a.1 < n + l.length
  | [], _, a, h => by simp [num] at h
  | b :: l, n, a, h => by
    simp only [num, List.mem_cons] at h
    rcases h with rfl | h
    · simp; omega
    · have := num_lt l (n + 1) a h
      simp; omega

end Go.Proofs.YtmfdhcnnhlchbaaGreat
