import Derived.Test.YtmfdhcnnhlchbaaC35
import Derived.Deep.CutBlock
namespace Go.Proofs.Ytmfdhcnnhlchbaa
open Go.RowKit Go.Maps

section
variable {lab : Nat → Nat} {w : World} {y x : Nat} {m : Mod} {L0 L1 : Lg} {r0 r1 : LgAt} {B c i : Nat} {k n seq : Int} {p : Pk}

/-- A row that one element was appended to. -/
def Ap (e size : Nat) (w1 w4 : World) (v0 v : Value) (N : Nat) (xs : List Value) : Prop := w1.grownBy w4 v0.ownBlock ∧ (∀ k, v.ownBlock = some k → v0.ownBlock = some k ∨ w1.heap.size ≤ k) ∧ w4.ownsRow 0 e size v (N + 1) xs

theorem Ap.mk {e size : Nat} {w1 w4 : World} {v0 v : Value} {N : Nat} {xs : List Value} {X : Obj} (own : w4.ownsRow 0 e size v (N + 1) xs) (g : (w1.alloc X).grownBy w4 v0.ownBlock) (f : fresh (w1.alloc X) v0 v) : Ap e size w1 w4 v0 v N xs :=
  ⟨grown_trans (World.grownBy_alloc w1 X _) g (fun k e => .inl e), fun k e => (f k e).imp id (fun e1 => by simp at e1; omega), own⟩

theorem Ap.mkD {e size : Nat} {w1 w4 : World} {v0 v : Value} {N : Nat} {xs : List Value} {X : Obj} (own : w4.ownsRow 0 e size v (N + 1) xs) (g : (w1.alloc X).drew.grownBy w4 v0.ownBlock) (f : fresh (w1.alloc X).drew v0 v) : Ap e size w1 w4 v0 v N xs :=
  Ap.mk (X := X) own ⟨g.os, g.tape, g.output, g.size, g.block⟩ f

theorem Ap.mkD0 {e size : Nat} {w1 w4 : World} {v0 v : Value} {N : Nat} {xs : List Value} {X : Obj} (own : w4.ownsRow 0 e size v (N + 1) xs) (g : (w1.drew.alloc X).grownBy w4 v0.ownBlock) (f : fresh (w1.drew.alloc X) v0 v) : Ap e size w1 w4 v0 v N xs :=
  Ap.mk (X := X) own ⟨g.os, g.tape, g.output, g.size, g.block⟩ f

theorem Ap.keep {e size e' size' N n : Nat} {w1 w4 : World} {v0 v v' : Value} {xs xs' : List Value} (h : Ap e size w1 w4 v0 v N xs) {n0 : Nat} {xs0 : List Value} (h0 : w1.ownsRow 0 e size v0 n0 xs0) (h' : w1.ownsRow 0 e' size' v' n xs') (hne : e' ≠ e) : w4.ownsRow 0 e' size' v' n xs' :=
  owns_keep h' (fun k e1 => h.1.block k (owns_lt h' e1) (fun e2 => rows_ne h' h0 hne e1 e2.symm))

theorem Ap.drew {e size : Nat} {w1 w4 : World} {v0 v : Value} {N : Nat} {xs : List Value} (h : Ap e size w1 w4 v0 v N xs) : Ap e size w1 w4.drew v0 v N xs := ⟨grown_drew h.1, h.2.1, h.2.2⟩

set_option maxRecDepth 100000 in
set_option maxHeartbeats 3200000 in
theorem took_send (h : Wm lab w y x m L0 L1 r0 r1 B) (hc : c < 2) (hl : Lens (lgOf L0 L1 c)) (hs : seq = (lgOf L0 L1 c).sent.length + 1) :
    Calls Try.prog 12 #[.pointer (some ⟨y, 0, none⟩), .int .i64 c, stepAgg 1 n p, .int .u64 seq] w fun e w' => e = .returned (.bool true) ∧ TookTo lab w y x m B (put0 c L0 ((lgOf L0 L1 c).sends p)) (put1 c L1 ((lgOf L0 L1 c).sends p)) w' := by
  obtain ⟨L, eL⟩ : ∃ L, L = lgOf L0 L1 c := ⟨_, rfl⟩
  obtain ⟨r, er⟩ : ∃ r, r = atOf r0 r1 c := ⟨_, rfl⟩
  rw [← eL] at hs hl ⊢
  obtain ⟨w1, hw1⟩ : ∃ w1 : World, w1 = w.alloc (.cells (stepArr 1 n p) tStep) := ⟨_, rfl⟩
  have g1 : w.grownBy w1 none := by rw [hw1]; exact World.grownBy_alloc _ _ _
  have hX1 : w1.heap[w.heap.size]? = some (.cells (stepArr 1 n p) tStep (0, 0)) := by rw [hw1]; exact heap_alloc_new w _
  obtain ⟨x0, x1, x2, x3, x4, x5, x6, x7, x8, xf⟩ := blk9c hX1
  have hzl : w.heap.size < w1.heap.size := blk_lt hX1
  have h1 := h.grown g1
  obtain ⟨_, y1, y2, y3, yf⟩ := h1.cells hc
  have hR := h1.lg hc
  rw [← eL, ← er] at y1 y2 y3 hR
  have hyl : y < w1.heap.size := blk_lt h1.blk
  obtain ⟨N, hN⟩ : ∃ N, N = L.sent.length := ⟨_, rfl⟩
  have hN5 : N ≤ 100000 := by rw [hN]; exact hl.s
  have rS := hR.s
  have rA := hR.a
  have rP := hR.p
  simp only [Lg.vs, Lg.va, Lg.vp] at y1 y2 y3 rS rA rP
  rw [hl.a] at y2 rA
  rw [hl.p] at y3 rP
  rw [← hN] at y1 y2 y3 rS rA rP hs
  have hcz : (c : Int) < 2 := by omega
  have hc0 : (0 : Int) ≤ (c : Int) := by omega
  have wn1 : IntKind.i64.wrap ((N : Int) + 1) = (N : Int) + 1 := by have := wrap_i (n := N + 1) (by omega); simpa using this
  have wn2 : IntKind.u64.wrap ((N : Int) + 1) = (N : Int) + 1 := by rw [IntKind.wrap_u64]; omega
  subst hs
  have HE : Hid (L = lgOf L0 L1 c ∧ r = atOf r0 r1 c ∧ N = L.sent.length ∧ Lens L ∧ Wm lab w y x m L0 L1 r0 r1 B ∧ w.grownBy w1 none) := ⟨eL, er, hN, hl, h, g1⟩
  have HR : Hid (LgRows lab w1 L r (5 + c) (7 + c) (9 + c)) := hR
  obtain ⟨as', cs, aa, ca, ap, cp⟩ := r
  simp only at y1 y2 y3 rS rA rP
  have hly := h.ly
  have nS : some y ≠ (Value.slice as' N cs).ownBlock := fun e => by
    have := HR.out.ls_ y (by rw [show Lg.vs L ⟨as', cs, aa, ca, ap, cp⟩ = .slice as' N cs by rw [hN]]; exact e.symm)
    omega
  have nA : some y ≠ (Value.slice aa N ca).ownBlock := fun e => by
    have := HR.out.la_ y (by rw [show Lg.va L ⟨as', cs, aa, ca, ap, cp⟩ = .slice aa N ca by rw [hN, ← hl.a]]; exact e.symm)
    omega
  have nP : some y ≠ (Value.slice ap N cp).ownBlock := fun e => by
    have := HR.out.lp_ y (by rw [show Lg.vp L ⟨as', cs, aa, ca, ap, cp⟩ = .slice ap N cp by rw [hN, ← hl.p]]; exact e.symm)
    omega
  have HY : Hid (w1.heap[y]? = some (.cells (wdCells x L0 L1 r0 r1) tWd (0, 0))) := h1.blk
  have HS : Hid (w1.ownsRow 0 tPk 7 (.slice as' N cs) N (L.sent.flatMap Pk.cells)) := rS
  have HA : Hid (w1.ownsRow 0 tInt 1 (.slice aa N ca) N (L.ans.map (Value.int .i64))) := rA
  have HP : Hid (w1.ownsRow 0 tBool 1 (.slice ap N cp) N (L.pend.map Value.bool)) := rP
  obtain ⟨i0, hi0, z0, s0, b0⟩ := info_parts infoPk
  obtain ⟨i1, hi1, z1, s1, b1⟩ := info_parts infoInt
  obtain ⟨i2, hi2, z2, s2, b2⟩ := info_parts infoBool
  clear eL er hN hR h h1 g1 hX1 hl rS rA rP
  go_enter Try.func12, Try.ntmps12
  go_upto_region 1 with fail
  rw [← hw1]
  clear hw1
  go_upto_region 6 with fail
  go_cut [10] from 18 (fun v w4 => Ap tPk 7 w1 w4 (.slice as' N cs) v N (L.sent.flatMap Pk.cells ++ p.cells))
  case first =>
    go_region_law (refine step_append_rows rfl (.tmp 42) (.tmp 45) 32 rfl 43 i0 _ 7 56 Try.underlying32 hi0 z0 s0 b0 rfl (by decide) (.slice as' N cs) N (L.sent.flatMap Pk.cells) (by simp [Act.eval]) (by exact HS.out.alloc _) (.slice (some ⟨w1.heap.size, 0, none⟩) 1 1) 1 (Pk.cells p) (by simp [Act.eval]) (by exact src_row (Pk.cells p) rfl) (by exact Pk.one _) (by omega) (by omega) ?_; intro v4 w4 own4 grow4 lab4; obtain ⟨a4, k4, hv4⟩ := owns_form own4; rw [hv4])
    all_goals
      (go_wp2_with fail
       subst hv4
       go_meet
       case rel => first | exact Ap.mk own4 grow4 lab4 | exact Ap.mkD own4 grow4 lab4 | exact Ap.mkD0 own4 grow4 lab4 | exact (Ap.mk own4 grow4 lab4).drew | exact (Ap.mkD own4 grow4 lab4).drew)
  case rest =>
    have ap4 := hcut
    obtain ⟨a4, k4, hv4⟩ := owns_form ap4.2.2
    rw [hv4] at ap4 ⊢
    clear hv4 hcut
    have HY4 : Hid (wc.heap[y]? = some (.cells (wdCells x L0 L1 r0 r1) tWd (0, 0))) := (ap4.1.block y hyl nS).trans HY.out
    have HA4 : Hid (wc.ownsRow 0 tInt 1 (.slice aa N ca) N (L.ans.map (Value.int .i64))) := ap4.keep HS.out HA.out (by decide)
    have HP4 : Hid (wc.ownsRow 0 tBool 1 (.slice ap N cp) N (L.pend.map Value.bool)) := ap4.keep HS.out HP.out (by decide)
    have q2 : wc.cell? ⟨y, 3 + c, none⟩ = some (.slice aa N ca) := by rw [← y2]; simp only [World.cell?, HY4.out, HY.out]
    have hyl4 : y < wc.heap.size := blk_lt HY4.out
    have H4 : Hid (Ap tPk 7 w1 wc (.slice as' N cs) (.slice a4 (N + 1) k4) N (L.sent.flatMap Pk.cells ++ p.cells)) := ap4
    clear x0 x1 x2 x3 x4 x5 x6 x7 x8 xf ap4
    go_wp2_with (at_builtin; refine wpList_append_rows rfl (.tmp 52) (.tmp 53) 34 rfl 3 i1 _ 1 8 Try.underlying34 hi1 z1 s1 b1 rfl (by decide) (.slice aa N ca) N (L.ans.map (Value.int .i64)) rfl ?ho (.slice (some ⟨wc.heap.size, 0, none⟩) 1 1) 1 [.int .i64 0] rfl ?hs ?h1 ?hb1 ?hb2 ?_)
    case ho => exact HA4.out.alloc _
    case hs => exact src_row [.int .i64 0] rfl
    case h1 => intro u hu; simp at hu; subst hu; rfl
    case hb1 => omega
    case hb2 => omega
    intro v5 w5 own5 grow5 lab5
    obtain ⟨a5, k5, hv5⟩ := owns_form own5
    rw [hv5] at own5 lab5 ⊢
    clear hv5
    have ap5 := Ap.mk own5 grow5 lab5
    have HY5 : Hid (w5.heap[y]? = some (.cells (wdCells x L0 L1 r0 r1) tWd (0, 0))) := (ap5.1.block y hyl4 nA).trans HY4.out
    have HS5 : Hid (w5.ownsRow 0 tPk 7 (.slice a4 (N + 1) k4) (N + 1) (L.sent.flatMap Pk.cells ++ p.cells)) := ap5.keep HA4.out H4.out.2.2 (by decide)
    have HP5 : Hid (w5.ownsRow 0 tBool 1 (.slice ap N cp) N (L.pend.map Value.bool)) := ap5.keep HA4.out HP4.out (by decide)
    have q3 : w5.cell? ⟨y, 5 + c, none⟩ = some (.slice ap N cp) := by rw [← y3]; simp only [World.cell?, HY5.out, HY.out]
    have hyl5 : y < w5.heap.size := blk_lt HY5.out
    have H5 : Hid (Ap tInt 1 wc w5 (.slice aa N ca) (.slice a5 (N + 1) k5) N (L.ans.map (Value.int .i64) ++ [.int .i64 0])) := ap5
    clear q2 own5 grow5 lab5 ap5
    go_wp2_with (at_builtin; refine wpList_append_rows rfl (.tmp 60) (.tmp 61) 36 rfl 4 i2 _ 1 1 Try.underlying36 hi2 z2 s2 b2 rfl (by decide) (.slice ap N cp) N (L.pend.map Value.bool) rfl ?ho (.slice (some ⟨w5.heap.size, 0, none⟩) 1 1) 1 [.bool true] rfl ?hs ?h1 ?hb1 ?hb2 ?_)
    case ho => exact HP5.out.alloc _
    case hs => exact src_row [.bool true] rfl
    case h1 => intro u hu; simp at hu; subst hu; rfl
    case hb1 => omega
    case hb2 => omega
    intro v6 w6 own6 grow6 lab6
    obtain ⟨a6, k6, hv6⟩ := owns_form own6
    rw [hv6] at own6 lab6 ⊢
    clear hv6
    have ap6 := Ap.mk own6 grow6 lab6
    have HY6 : Hid (w6.heap[y]? = some (.cells (wdCells x L0 L1 r0 r1) tWd (0, 0))) := (ap6.1.block y hyl5 nP).trans HY5.out
    have HS6 : Hid (w6.ownsRow 0 tPk 7 (.slice a4 (N + 1) k4) (N + 1) (L.sent.flatMap Pk.cells ++ p.cells)) := ap6.keep HP5.out HS5.out (by decide)
    have HA6 : Hid (w6.ownsRow 0 tInt 1 (.slice a5 (N + 1) k5) (N + 1) (L.ans.map (Value.int .i64) ++ [.int .i64 0])) := ap6.keep HP5.out H5.out.2.2 (by decide)
    have q1 : w6.cell? ⟨y, 1 + c, none⟩ = some (.slice as' N cs) := by rw [← y1]; simp only [World.cell?, HY6.out, HY.out]
    have q2 : w6.cell? ⟨y, 3 + c, none⟩ = some (.slice aa N ca) := by rw [← y2]; simp only [World.cell?, HY6.out, HY.out]
    have q4 : w6.cell? ⟨y, 5 + c, none⟩ = some (.slice ap N cp) := by rw [← y3]; simp only [World.cell?, HY6.out, HY.out]
    have qf : ∀ k, w6.frozen? ⟨y, k, none⟩ = false := fun k => by have := yf k; simpa only [World.frozen?, HY6.out, HY.out] using this
    have hyl6 : y < w6.heap.size := blk_lt HY6.out
    have H6 : Hid (Ap tBool 1 w5 w6 (.slice ap N cp) (.slice a6 (N + 1) k6) N (L.pend.map Value.bool ++ [.bool true])) := ap6
    clear q3 own6 grow6 lab6 ap6 y1 y2 y3 yf
    go_wp2_with fail
    go_ret
    refine ⟨rfl, ?_⟩
    obtain ⟨eL, er, hN, hl, h, g1⟩ := HE.out
    subst hN
    have hc3 : c = 0 ∨ c = 1 := by omega
    refine send_done h hc eL hl er (w' := _) ?_ ?_ ?_ ?_ ?_ (aS := a4) (kS := k4) (aA := a5) (kA := k5) (aP := a6) (kP := k6) ?_ ?_ ?_ ?_ ?_ ?_ ?_
    · exact H6.out.1.os.trans (H5.out.1.os.trans (H4.out.1.os.trans g1.os))
    · exact H6.out.1.tape.trans (H5.out.1.tape.trans (H4.out.1.tape.trans g1.tape))
    · exact H6.out.1.output.trans (H5.out.1.output.trans (H4.out.1.output.trans g1.output))
    · rw [setCell_size, setCell_size, setCell_size]
      exact Nat.le_trans g1.size (Nat.le_trans H4.out.1.size (Nat.le_trans H5.out.1.size H6.out.1.size))
    · intro k hk e1 e2 e3 e4
      rw [setCell_other _ _ _ e4, setCell_other _ _ _ e4, setCell_other _ _ _ e4]
      have k1 : k < w1.heap.size := Nat.lt_of_lt_of_le hk g1.size
      have k2 : k < wc.heap.size := Nat.lt_of_lt_of_le k1 H4.out.1.size
      have k3 : k < w5.heap.size := Nat.lt_of_lt_of_le k2 H5.out.1.size
      rw [H6.out.1.block k k3 (by rw [← hl.p]; exact e3), H5.out.1.block k k2 (by rw [← hl.a]; exact e2), H4.out.1.block k k1 e1, g1.block k hk (by simp)]
    · have b1 := setCell_same HY6.out (1 + c) (.slice a4 (L.sent.length + 1) k4)
      have b2 := setCell_same b1 (3 + c) (.slice a5 (L.sent.length + 1) k5)
      have b3 := setCell_same b2 (5 + c) (.slice a6 (L.sent.length + 1) k6)
      rw [b3]
      rcases hc3 with rfl | rfl
      · simp [wdCells, put0, put1, Lg.sends, hl.a, hl.p]
      · simp [wdCells, put0, put1, Lg.sends, hl.a, hl.p]
    · refine owns_keep HS6.out fun k e => ?_
      have hk : k ≠ y := fun e1 => owns_ne HY6.out HS6.out (by decide) (by rw [e, e1])
      rw [setCell_other _ _ _ hk, setCell_other _ _ _ hk, setCell_other _ _ _ hk]
    · refine owns_keep HA6.out fun k e => ?_
      have hk : k ≠ y := fun e1 => owns_ne HY6.out HA6.out (by decide) (by rw [e, e1])
      rw [setCell_other _ _ _ hk, setCell_other _ _ _ hk, setCell_other _ _ _ hk]
    · refine owns_keep H6.out.2.2 fun k e => ?_
      have hk : k ≠ y := fun e1 => owns_ne HY6.out H6.out.2.2 (by decide) (by rw [e, e1])
      rw [setCell_other _ _ _ hk, setCell_other _ _ _ hk, setCell_other _ _ _ hk]
    · exact fun k e => (H4.out.2.1 k e).imp id (fun e1 => Nat.le_trans g1.size e1)
    · intro k e
      show (Value.slice aa L.ans.length ca).ownBlock = some k ∨ _
      rw [hl.a]
      exact (H5.out.2.1 k e).imp id (fun e1 => Nat.le_trans g1.size (Nat.le_trans H4.out.1.size e1))
    · intro k e
      show (Value.slice ap L.pend.length cp).ownBlock = some k ∨ _
      rw [hl.p]
      exact (H6.out.2.1 k e).imp id (fun e1 => Nat.le_trans g1.size (Nat.le_trans H4.out.1.size (Nat.le_trans H5.out.1.size e1)))

end

end Go.Proofs.Ytmfdhcnnhlchbaa
