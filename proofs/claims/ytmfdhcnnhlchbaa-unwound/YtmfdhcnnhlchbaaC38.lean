import Derived.Test.YtmfdhcnnhlchbaaC31
import Derived.Test.YtmfdhcnnhlchbaaC32
import Derived.Test.YtmfdhcnnhlchbaaC37
import Derived.Deep.CutBlock
namespace Go.Proofs.Ytmfdhcnnhlchbaa
open Go.RowKit Go.Maps

section
variable {lab : Nat → Nat} {w : World} {y x : Nat} {m : Mod} {L0 L1 : Lg} {r0 r1 : LgAt} {N : Nat}

def MoveTo (lab : Nat → Nat) (w : World) (y x : Nat) (m : Mod) (L0 L1 : Lg) (N : Nat) (w' : World) : Prop := ∃ lab' m' L0' L1' r0' r1', Wd lab' w' y x m' L0' L1' r0' r1' N ∧ StepW lab lab' w w' ∧ (Cons m L0 L1 → Cons m' L0' L1')

abbrev pkZ : Pk := ⟨0, 0, 0, 0, 0, 0, 0⟩

theorem set_kind {w : World} {b t : Nat} {k n k' : Int} {p : Pk} (h : w.heap[b]? = some (.cells (stepArr k n p) t (0, 0))) : (w.setCell ⟨b, 0, none⟩ (.int .i64 k')).heap[b]? = some (.cells (stepArr k' n p) t (0, 0)) := by
  have := setCell_same h 0 (.int .i64 k')
  simpa using this

theorem set_num {w : World} {b t : Nat} {k n n' : Int} {p : Pk} (h : w.heap[b]? = some (.cells (stepArr k n p) t (0, 0))) : (w.setCell ⟨b, 1, none⟩ (.int .u64 n')).heap[b]? = some (.cells (stepArr k n' p) t (0, 0)) := by
  have := setCell_same h 1 (.int .u64 n')
  simpa using this

/-- What a move has made up its mind to. -/
def Mid (w : World) (z : Nat) (t0 t1 : Int) (wc : World) : Prop :=
  ∃ k n p, w.grownBy wc none ∧ wc.heap[z]? = some (.cells #[.int .u64 t0, .int .u64 t1] 56 (0, 0)) ∧ wc.heap[z + 1]? = some (.cells (stepArr k n p) tStep (0, 0)) ∧ 0 ≤ n ∧ n < 18446744073709551616 ∧ 0 ≤ p.amount

theorem wrapU_nn (x : Int) : 0 ≤ IntKind.u64.wrap x := by rw [IntKind.wrap_u64]; omega

theorem Mid.mk {w : World} {z : Nat} {t0 t1 : Int} {wc : World} {k n : Int} {p : Pk} (h1 : w.grownBy wc none) (h2 : wc.heap[z]? = some (.cells #[.int .u64 t0, .int .u64 t1] 56 (0, 0))) (h3 : wc.heap[z + 1]? = some (.cells (stepArr k n p) tStep (0, 0))) (h4 : 0 ≤ n) (h5 : n < 18446744073709551616) (h6 : 0 ≤ p.amount) : Mid w z t0 t1 wc := ⟨k, n, p, h1, h2, h3, h4, h5, h6⟩

theorem hideW {P Q : World → Prop} {w : World} (h : Q w) (k : ∀ w', Q w' → P w') : P w := k w h

/-- The same, the packet by name. -/
structure MidAt (w : World) (z : Nat) (t0 t1 k n : Int) (p : Pk) (wc : World) : Prop where
  g : w.grownBy wc none
  le : w.heap.size ≤ z
  b : wc.heap[z]? = some (.cells #[.int .u64 t0, .int .u64 t1] 56 (0, 0))
  s : wc.heap[z + 1]? = some (.cells (stepArr k n p) tStep (0, 0))

theorem MidAt.mid {w : World} {z : Nat} {t0 t1 k n : Int} {p : Pk} {wc : World} (h : MidAt w z t0 t1 k n p wc) (h0 : 0 ≤ n) (h1 : n < 18446744073709551616) (h2 : 0 ≤ p.amount) : Mid w z t0 t1 wc.drew := ⟨k, n, p, grown_drew h.g, h.b, h.s, h0, h1, h2⟩

theorem MidAt.seq {w : World} {z : Nat} {t0 t1 k n : Int} {p : Pk} {wc : World} (h : MidAt w z t0 t1 k n p wc) (a : Int) : MidAt w z t0 t1 k n { p with seq := a } (wc.setCell ⟨z + 1, 2, none⟩ (.int .u64 a)) := by
  have := setCell_same h.s 2 (.int .u64 a)
  exact ⟨grown_set h.g _ _ (.inr (by have := h.le; simp; omega)), h.le, (setCell_other _ _ _ (by simp)).trans h.b, by simpa using this⟩

theorem MidAt.src {w : World} {z : Nat} {t0 t1 k n : Int} {p : Pk} {wc : World} (h : MidAt w z t0 t1 k n p wc) (a : Int) : MidAt w z t0 t1 k n { p with src := a } (wc.setCell ⟨z + 1, 3, none⟩ (.int .i64 a)) := by
  have := setCell_same h.s 3 (.int .i64 a)
  exact ⟨grown_set h.g _ _ (.inr (by have := h.le; simp; omega)), h.le, (setCell_other _ _ _ (by simp)).trans h.b, by simpa using this⟩

theorem MidAt.dst {w : World} {z : Nat} {t0 t1 k n : Int} {p : Pk} {wc : World} (h : MidAt w z t0 t1 k n p wc) (a : Int) : MidAt w z t0 t1 k n { p with dst := a } (wc.setCell ⟨z + 1, 4, none⟩ (.int .i64 a)) := by
  have := setCell_same h.s 4 (.int .i64 a)
  exact ⟨grown_set h.g _ _ (.inr (by have := h.le; simp; omega)), h.le, (setCell_other _ _ _ (by simp)).trans h.b, by simpa using this⟩

theorem MidAt.coin {w : World} {z : Nat} {t0 t1 k n : Int} {p : Pk} {wc : World} (h : MidAt w z t0 t1 k n p wc) (a : Int) : MidAt w z t0 t1 k n { p with coin := a } (wc.setCell ⟨z + 1, 5, none⟩ (.int .i64 a)) := by
  have := setCell_same h.s 5 (.int .i64 a)
  exact ⟨grown_set h.g _ _ (.inr (by have := h.le; simp; omega)), h.le, (setCell_other _ _ _ (by simp)).trans h.b, by simpa using this⟩

theorem MidAt.amount {w : World} {z : Nat} {t0 t1 k n : Int} {p : Pk} {wc : World} (h : MidAt w z t0 t1 k n p wc) (a : Int) : MidAt w z t0 t1 k n { p with amount := a } (wc.setCell ⟨z + 1, 6, none⟩ (.int .u64 a)) := by
  have := setCell_same h.s 6 (.int .u64 a)
  exact ⟨grown_set h.g _ _ (.inr (by have := h.le; simp; omega)), h.le, (setCell_other _ _ _ (by simp)).trans h.b, by simpa using this⟩

theorem MidAt.height {w : World} {z : Nat} {t0 t1 k n : Int} {p : Pk} {wc : World} (h : MidAt w z t0 t1 k n p wc) (a : Int) : MidAt w z t0 t1 k n { p with height := a } (wc.setCell ⟨z + 1, 7, none⟩ (.int .u64 a)) := by
  have := setCell_same h.s 7 (.int .u64 a)
  exact ⟨grown_set h.g _ _ (.inr (by have := h.le; simp; omega)), h.le, (setCell_other _ _ _ (by simp)).trans h.b, by simpa using this⟩

theorem MidAt.time {w : World} {z : Nat} {t0 t1 k n : Int} {p : Pk} {wc : World} (h : MidAt w z t0 t1 k n p wc) (a : Int) : MidAt w z t0 t1 k n { p with time := a } (wc.setCell ⟨z + 1, 8, none⟩ (.int .u64 a)) := by
  have := setCell_same h.s 8 (.int .u64 a)
  exact ⟨grown_set h.g _ _ (.inr (by have := h.le; simp; omega)), h.le, (setCell_other _ _ _ (by simp)).trans h.b, by simpa using this⟩

theorem doM_taken {c : Nat} {k n : Int} {p : Pk} (h : 0 ≤ m.taken ∧ m.taken ≤ N) : 0 ≤ (doM m c k n p).1.taken ∧ (doM m c k n p).1.taken ≤ N + 1 := by
  unfold doM
  split <;> (simp only; split <;> omega)

theorem MoveTo.mk {w' : World} {lab' : Nat → Nat} {m' : Mod} {L0' L1' : Lg} (h : Wm lab' w' y x m' L0' L1' r0 r1 (6 + 4 * N + 4)) (h2 : Two m'.c0 m'.c1 L0' L1' (N + 1)) (ht : 0 ≤ m'.taken ∧ m'.taken ≤ N + 1) (st : StepW lab lab' w w') (hc : Cons m L0 L1 → Cons m' L0' L1') : MoveTo lab w y x m L0 L1 (N + 1) w' :=
  ⟨lab', m', L0', L1', r0, r1, Wm.wd (by rw [show 6 + 4 * (N + 1) = 6 + 4 * N + 4 by omega]; exact h) h2 (by simpa using ht), st, hc⟩

set_option maxRecDepth 100000 in
set_option maxHeartbeats 12800000 in
theorem move_ok (h : Wd lab w y x m L0 L1 r0 r1 N) (hN : N < 50000) (s : ByteArray) (hs : s.size = 4) :
    Calls Try.prog 9 #[.pointer (some ⟨y, 0, none⟩), .string s] w fun e w' => e = .returned (.bool true) ∧ MoveTo lab w y x m L0 L1 (N + 1) w' := by
  have htot := total_ok h.mem (h.two.lens0 (by omega)) (h.two.lens1 (by omega))
  obtain ⟨t0, et0⟩ : ∃ t0, t0 = totM m L0 L1 0 := ⟨_, rfl⟩
  obtain ⟨t1, et1⟩ : ∃ t1, t1 = totM m L0 L1 1 := ⟨_, rfl⟩
  rw [← et0, ← et1] at htot
  have HTT : Hid (t0 = totM m L0 L1 0 ∧ t1 = totM m L0 L1 1) := ⟨et0, et1⟩
  clear et0 et1
  obtain ⟨b0, e0⟩ : ∃ b0 : Nat, b0 = (s[0]'(by omega)).toNat := ⟨_, rfl⟩
  obtain ⟨b1, e1⟩ : ∃ b1 : Nat, b1 = (s[1]'(by omega)).toNat := ⟨_, rfl⟩
  obtain ⟨b2, e2⟩ : ∃ b2 : Nat, b2 = (s[2]'(by omega)).toNat := ⟨_, rfl⟩
  obtain ⟨b3, e3⟩ : ∃ b3 : Nat, b3 = (s[3]'(by omega)).toNat := ⟨_, rfl⟩
  have l0 : b0 < 256 := by rw [e0]; exact UInt8.toNat_lt _
  have l1 : b1 < 256 := by rw [e1]; exact UInt8.toNat_lt _
  have l2 : b2 < 256 := by rw [e2]; exact UInt8.toNat_lt _
  have l3 : b3 < 256 := by rw [e3]; exact UInt8.toNat_lt _
  have f0 : ∀ h, (s[0]'h).toNat = b0 := fun _ => e0.symm
  have f1 : ∀ h, (s[1]'h).toNat = b1 := fun _ => e1.symm
  have f2 : ∀ h, (s[2]'h).toNat = b2 := fun _ => e2.symm
  have f3 : ∀ h, (s[3]'h).toNat = b3 := fun _ => e3.symm
  clear e0 e1 e2 e3
  obtain ⟨c, ec⟩ : ∃ c, c = b0 % 2 := ⟨_, rfl⟩
  have hc : c < 2 := by omega
  have wc0 : IntKind.i64.wrap (b0 : Int) = (b0 : Int) := wrap_i (by omega)
  have tc : (b0 : Int).tmod 2 = (c : Int) := by rw [ec]; exact (Int.ofNat_tmod b0 2).symm
  obtain ⟨kk, ek⟩ : ∃ kk, kk = b1 % 16 := ⟨_, rfl⟩
  have hkk : kk < 16 := by omega
  have tk : (b1 : Int) % 16 = (kk : Int) := by rw [ek]; omega
  obtain ⟨nn, en⟩ : ∃ nn, nn = b2 % 8 := ⟨_, rfl⟩
  have tn : (b2 : Int) % 8 = (nn : Int) := by rw [en]; omega
  have HX : Hid (c = b0 % 2 ∧ kk = b1 % 16 ∧ nn = b2 % 8) := ⟨ec, ek, en⟩
  have hnn : nn < 8 := by omega
  clear ec ek en
  have HD : Hid (Wd lab w y x m L0 L1 r0 r1 N) := h
  have hyl := blk_lt h.blk
  clear h
  go_enter Try.func9, Try.ntmps9
  go_upto_block 0 with (go_at_call 16; refine htot.mono ?_; rintro e wt ⟨rfl, gt⟩)
  obtain ⟨wS, hwS⟩ : ∃ wS : World, wS = (wt.alloc (.cells #[.int .u64 t0, .int .u64 t1] 56)).alloc (.cells (stepArr 0 nn pkZ) tStep) := ⟨_, rfl⟩
  have hZ7 : wS.heap[wt.heap.size]? = some (.cells #[.int .u64 t0, .int .u64 t1] 56 (0, 0)) := by
    rw [hwS]
    exact ((World.grownBy_alloc _ _ none).block _ (by simp) (by simp)).trans (heap_alloc_new wt _)
  have hZ8 : wS.heap[wt.heap.size + 1]? = some (.cells (stepArr 0 nn pkZ) tStep (0, 0)) := by
    rw [hwS]
    have := heap_alloc_new (wt.alloc (.cells #[.int .u64 t0, .int .u64 t1] 56)) (.cells (stepArr 0 nn pkZ) tStep)
    simpa using this
  have gS : w.grownBy wS none := by rw [hwS]; exact grown_alloc (grown_alloc gt _) _
  have hsz : w.heap.size ≤ wt.heap.size := gt.size
  rw [← hwS, tk]
  clear hwS
  obtain ⟨z, hz⟩ : ∃ z, z = wt.heap.size := ⟨_, rfl⟩
  rw [← hz] at hZ7 hZ8 hsz ⊢
  have hlook : ∀ v : World, w.grownBy v none → ∀ d : Nat, d < 2 → Calls Try.prog 13 #[.pointer (some ⟨x, 0, none⟩), .int .i64 d] v fun e w' => Looked (chOf m d) v e w' := fun v hv d hd => look_at (HD.out.mem.grown hv) hd (by omega)
  clear hz gt tk
  obtain ⟨d, ed⟩ : ∃ d, d = 1 - c := ⟨_, rfl⟩
  have hd : d < 2 := by omega
  have wd : IntKind.i64.wrap (1 - (c : Int)) = (d : Int) := by rw [show (1 : Int) - (c : Int) = (d : Int) by omega]; exact wrap_i (by omega)
  have wb2 : IntKind.u64.wrap (b2 : Int) = (b2 : Int) := by rw [IntKind.wrap_u64]; omega
  have HC : Hid (∀ e : Nat, e < 2 → 0 ≤ (chOf m e).hd.height ∧ (chOf m e).hd.height ≤ N ∧ 0 ≤ (chOf m e).hd.nextRecv ∧ (chOf m e).hd.nextRecv ≤ N + 1) := by
    intro e he
    have h2 := HD.out.two
    rcases (show e = 0 ∨ e = 1 by omega) with rfl | rfl
    · have a1 := h2.rs.h0; have a2 := h2.rs.h1; have a3 := h2.back.rn; have a4 := h2.rs.a
      exact ⟨a1, a2, by show 0 ≤ m.c0.hd.nextRecv; omega, by show m.c0.hd.nextRecv ≤ _; omega⟩
    · have a1 := h2.ro.h0; have a2 := h2.ro.h1; have a3 := h2.out.rn; have a4 := h2.ro.a
      exact ⟨a1, a2, by show 0 ≤ m.c1.hd.nextRecv; omega, by show m.c1.hd.nextRecv ≤ _; omega⟩
  clear ed
  go_cut [9] from 18 (fun _ wc => Mid w z t0 t1 wc)
  case first =>
    obtain ⟨x0, x1, x2, x3, x4, x5, x6, x7, x8, xf⟩ := blk9c hZ8
    have hzl := blk_lt hZ8
    have HZ : Hid (wS.heap[z + 1]? = some (.cells (stepArr 0 nn pkZ) tStep (0, 0))) := hZ8
    have done1 : ∀ k' : Int, Mid w z t0 t1 (wS.setCell ⟨z + 1, 0, none⟩ (.int .i64 k')) := fun k' => Mid.mk (grown_set gS _ _ (.inr (by simp; omega))) ((setCell_other _ _ _ (by simp)).trans hZ7) (set_kind hZ8) (by omega) (by omega) (Int.le_refl 0)
    have HD1 : Hid (∀ k' : Int, Mid w z t0 t1 (wS.setCell ⟨z + 1, 0, none⟩ (.int .i64 k'))) := done1
    clear done1
    rcases (show kk < 5 ∨ (5 ≤ kk ∧ kk < 8) ∨ kk = 8 ∨ (9 ≤ kk ∧ kk < 11) ∨ kk = 11 ∨ kk = 12 ∨ kk = 13 ∨ kk = 14 ∨ kk = 15 by omega) with hk | hk | hk | hk | hk | hk | hk | hk | hk
    · have d1 : (kk : Int) < 5 := by omega
      go_upto_region 11 with fail
      obtain ⟨wK, hwK⟩ : ∃ wK, wK = wS.setCell ⟨z + 1, 0, none⟩ (.int .i64 1) := ⟨_, rfl⟩
      rw [← hwK]
      have gK : w.grownBy wK none := by rw [hwK]; exact grown_set gS _ _ (.inr (by simp; omega))
      have hK7 : wK.heap[z]? = some (.cells #[.int .u64 t0, .int .u64 t1] 56 (0, 0)) := by rw [hwK]; exact (setCell_other _ _ _ (by simp)).trans hZ7
      have hK8 : wK.heap[z + 1]? = some (.cells (stepArr 1 nn pkZ) tStep (0, 0)) := by rw [hwK]; exact set_kind HZ.out
      clear hwK x0 x1 x2 x3 x4 x5 x6 x7 x8 xf
      obtain ⟨x0, x1, x2, x3, x4, x5, x6, x7, x8, xf⟩ := blk9c hK8
      have hzK := blk_lt hK8
      refine wp_region_head 47 (by kernel_rfl) (by kernel_rfl) #[true, true, true, true, true, true, true, true, true, true, true, true, true, true, true, true, true, true, true, true, true, true, true, true, true, true, true, true, true, true, true, true, true, true, true, true, true, true, true, true, true, true, true, true, true, true, true, false] (by kernel_rfl) ?_
      simp only [List.take_succ_cons, List.take_zero]
      repeat still_step
      refine wpStill_nil ?_
      refine wpAny_ready (rs := [47]) (by kernel_rfl) (by simp) ?_
      refine AllReady.cons (o := _) rfl (fun K hK => ?_) AllReady.nil
      go_simp
      refine hK _ _ ?_
      clear hK K
      refine hideW (P := wpAny _ _ _ _ _ _ _) (Q := Mid w z t0 t1) ?_ ?_
      · have hM : MidAt w z t0 t1 1 nn pkZ wK := ⟨gK, by omega, hK7, hK8⟩
        exact (((((((hM.seq _).src _).dst _).coin _).amount _).height _).time _).mid (by omega) (by omega) (wrapU_nn _)
      · intro wE hM
        refine wpAny_done (by kernel_rfl) ?_ _
        go_wp2_with fail
        go_meet
        case rel => exact hM
    · have d1 : ¬ (kk : Int) < 5 := by omega
      have d2 : (kk : Int) < 8 := by omega
      go_wp2_with fail
      go_meet
      case rel => exact HD1.out 2
    · have d1 : ¬ (kk : Int) < 5 := by omega
      have d2 : ¬ (kk : Int) < 8 := by omega
      have d3 : (kk : Int) = 8 := by omega
      go_wp2_with fail
      go_meet
      case rel => exact Mid.mk (grown_set (grown_set gS _ _ (.inr (by simp; omega))) _ _ (.inr (by simp; omega))) ((setCell_other _ _ _ (by simp)).trans ((setCell_other _ _ _ (by simp)).trans hZ7)) (set_num (set_kind HZ.out)) (by omega) (by omega) (Int.le_refl 0)
    · have d1 : ¬ (kk : Int) < 5 := by omega
      have d2 : ¬ (kk : Int) < 8 := by omega
      have d3 : ¬ (kk : Int) = 8 := by omega
      have d4 : (kk : Int) < 11 := by omega
      go_upto_region 19 with fail
      obtain ⟨wK, hwK⟩ : ∃ wK, wK = wS.setCell ⟨z + 1, 0, none⟩ (.int .i64 3) := ⟨_, rfl⟩
      rw [← hwK]
      have gK : w.grownBy wK none := by rw [hwK]; exact grown_set gS _ _ (.inr (by simp; omega))
      have hK7 : wK.heap[z]? = some (.cells #[.int .u64 t0, .int .u64 t1] 56 (0, 0)) := by rw [hwK]; exact (setCell_other _ _ _ (by simp)).trans hZ7
      have hK8 : wK.heap[z + 1]? = some (.cells (stepArr 3 nn pkZ) tStep (0, 0)) := by rw [hwK]; exact set_kind HZ.out
      clear hwK
      obtain ⟨y0, _, _, _, yf⟩ := (HD.out.mem.grown gK).cells hc
      have hyK := blk_lt (HD.out.mem.grown gK).blk
      have hlk := hlook wK gK d hd
      clear x0 x1 x2 x3 x4 x5 x6 x7 x8 xf
      go_upto_region 20 with (go_at_call 13; refine hlk.mono ?_; rintro e w3 ⟨kh, al, cl, rfl, g3⟩)
      obtain ⟨w5, hw5⟩ : ∃ w5, w5 = w3.alloc (.cells #[.int .u64 (chOf m d).hd.height, .int .u64 (chOf m d).hd.time, .int .u64 kh, .bool (chOf m d).hd.isOpen, .int .u64 (chOf m d).nextSend, .int .u64 (chOf m d).hd.nextRecv, .slice al (chOf m d).hd.packets.length cl, .int .u64 (chOf m d).locked, .int .u64 (chOf m d).about] 49) := ⟨_, rfl⟩
      have g5 : wK.grownBy w5 none := by rw [hw5]; exact grown_alloc g3 _
      have hL5 := heap_alloc_new w3 (.cells #[.int .u64 (chOf m d).hd.height, .int .u64 (chOf m d).hd.time, .int .u64 kh, .bool (chOf m d).hd.isOpen, .int .u64 (chOf m d).nextSend, .int .u64 (chOf m d).hd.nextRecv, .slice al (chOf m d).hd.packets.length cl, .int .u64 (chOf m d).locked, .int .u64 (chOf m d).about] 49)
      rw [← hw5] at hL5 ⊢
      clear hw5
      have h57 := (g5.block z (blk_lt hK7) (by simp)).trans hK7
      have h58 := (g5.block (z + 1) (blk_lt hK8) (by simp)).trans hK8
      obtain ⟨x0, x1, x2, x3, x4, x5, x6, x7, x8, xf⟩ := blk9c h58
      obtain ⟨v0, v1, v2, v3, v4, v5, v6, v7, v8, vf⟩ := blk9c hL5
      have hz5 := blk_lt h58
      have h35 := blk_lt hL5
      go_wp2_with fail
      go_meet
      case rel => exact Mid.mk (grown_set (grown_trans gK g5 (fun k e => by cases e)) _ _ (.inr (by simp; omega))) ((setCell_other _ _ _ (by simp)).trans h57) (set_num h58) (by have := (HC.out d hd).1; omega) (by have := (HC.out d hd).2.1; omega) (Int.le_refl 0)
    · have d1 : ¬ (kk : Int) < 5 := by omega
      have d2 : ¬ (kk : Int) < 8 := by omega
      have d3 : ¬ (kk : Int) = 8 := by omega
      have d4 : ¬ (kk : Int) < 11 := by omega
      have d5 : (kk : Int) = 11 := by omega
      go_upto_region 23 with fail
      obtain ⟨wK, hwK⟩ : ∃ wK, wK = wS.setCell ⟨z + 1, 0, none⟩ (.int .i64 4) := ⟨_, rfl⟩
      rw [← hwK]
      have gK : w.grownBy wK none := by rw [hwK]; exact grown_set gS _ _ (.inr (by simp; omega))
      have hK7 : wK.heap[z]? = some (.cells #[.int .u64 t0, .int .u64 t1] 56 (0, 0)) := by rw [hwK]; exact (setCell_other _ _ _ (by simp)).trans hZ7
      have hK8 : wK.heap[z + 1]? = some (.cells (stepArr 4 nn pkZ) tStep (0, 0)) := by rw [hwK]; exact set_kind HZ.out
      clear hwK
      obtain ⟨y0, _, _, _, yf⟩ := (HD.out.mem.grown gK).cells hc
      have hyK := blk_lt (HD.out.mem.grown gK).blk
      have hlk := hlook wK gK c hc
      clear x0 x1 x2 x3 x4 x5 x6 x7 x8 xf
      go_upto_region 24 with (go_at_call 13; refine hlk.mono ?_; rintro e w3 ⟨kh, al, cl, rfl, g3⟩)
      obtain ⟨w5, hw5⟩ : ∃ w5, w5 = w3.alloc (.cells #[.int .u64 (chOf m c).hd.height, .int .u64 (chOf m c).hd.time, .int .u64 kh, .bool (chOf m c).hd.isOpen, .int .u64 (chOf m c).nextSend, .int .u64 (chOf m c).hd.nextRecv, .slice al (chOf m c).hd.packets.length cl, .int .u64 (chOf m c).locked, .int .u64 (chOf m c).about] 49) := ⟨_, rfl⟩
      have g5 : wK.grownBy w5 none := by rw [hw5]; exact grown_alloc g3 _
      have hL5 := heap_alloc_new w3 (.cells #[.int .u64 (chOf m c).hd.height, .int .u64 (chOf m c).hd.time, .int .u64 kh, .bool (chOf m c).hd.isOpen, .int .u64 (chOf m c).nextSend, .int .u64 (chOf m c).hd.nextRecv, .slice al (chOf m c).hd.packets.length cl, .int .u64 (chOf m c).locked, .int .u64 (chOf m c).about] 49)
      rw [← hw5] at hL5 ⊢
      clear hw5
      have h57 := (g5.block z (blk_lt hK7) (by simp)).trans hK7
      have h58 := (g5.block (z + 1) (blk_lt hK8) (by simp)).trans hK8
      obtain ⟨x0, x1, x2, x3, x4, x5, x6, x7, x8, xf⟩ := blk9c h58
      obtain ⟨v0, v1, v2, v3, v4, v5, v6, v7, v8, vf⟩ := blk9c hL5
      have hz5 := blk_lt h58
      have h35 := blk_lt hL5
      go_wp2_with fail
      go_meet
      case rel => exact Mid.mk (grown_set (grown_trans gK g5 (fun k e => by cases e)) _ _ (.inr (by simp; omega))) ((setCell_other _ _ _ (by simp)).trans h57) (set_num h58) (by have := (HC.out c hc).2.2.1; omega) (by have := (HC.out c hc).2.2.2; omega) (Int.le_refl 0)
    · have d1 : ¬ (kk : Int) < 5 := by omega
      have d2 : ¬ (kk : Int) < 8 := by omega
      have d3 : ¬ (kk : Int) = 8 := by omega
      have d4 : ¬ (kk : Int) < 11 := by omega
      have d5 : ¬ (kk : Int) = 11 := by omega
      have d6 : (kk : Int) = 12 := by omega
      go_wp2_with fail
      go_meet
      case rel => exact HD1.out 5
    · have d1 : ¬ (kk : Int) < 5 := by omega
      have d2 : ¬ (kk : Int) < 8 := by omega
      have d3 : ¬ (kk : Int) = 8 := by omega
      have d4 : ¬ (kk : Int) < 11 := by omega
      have d5 : ¬ (kk : Int) = 11 := by omega
      have d6 : ¬ (kk : Int) = 12 := by omega
      have d7 : (kk : Int) = 13 := by omega
      go_wp2_with fail
      go_meet
      case rel => exact HD1.out 6
    · have d1 : ¬ (kk : Int) < 5 := by omega
      have d2 : ¬ (kk : Int) < 8 := by omega
      have d3 : ¬ (kk : Int) = 8 := by omega
      have d4 : ¬ (kk : Int) < 11 := by omega
      have d5 : ¬ (kk : Int) = 11 := by omega
      have d6 : ¬ (kk : Int) = 12 := by omega
      have d7 : ¬ (kk : Int) = 13 := by omega
      have d8 : (kk : Int) = 14 := by omega
      go_wp2_with fail
      go_meet
      case rel => exact HD1.out 7
    · have d1 : ¬ (kk : Int) < 5 := by omega
      have d2 : ¬ (kk : Int) < 8 := by omega
      have d3 : ¬ (kk : Int) = 8 := by omega
      have d4 : ¬ (kk : Int) < 11 := by omega
      have d5 : ¬ (kk : Int) = 11 := by omega
      have d6 : ¬ (kk : Int) = 12 := by omega
      have d7 : ¬ (kk : Int) = 13 := by omega
      have d8 : ¬ (kk : Int) = 14 := by omega
      rcases (show 200 < b2 ∨ (¬ 200 < b2 ∧ 100 < b2) ∨ ¬ 100 < b2 by omega) with hm | hm | hm
      · have g1 : (200 : Int) < (b2 : Int) := by omega
        go_wp2_with fail
        go_meet
        case rel => exact HD1.out 8
      · have g1 : ¬ (200 : Int) < (b2 : Int) := by omega
        have g2 : (100 : Int) < (b2 : Int) := by omega
        go_wp2_with fail
        go_meet
        case rel => exact HD1.out 9
      · have g1 : ¬ (200 : Int) < (b2 : Int) := by omega
        have g2 : ¬ (100 : Int) < (b2 : Int) := by omega
        go_upto_region 7 with fail
        obtain ⟨wK, hwK⟩ : ∃ wK, wK = wS.setCell ⟨z + 1, 0, none⟩ (.int .i64 4) := ⟨_, rfl⟩
        rw [← hwK]
        have gK : w.grownBy wK none := by rw [hwK]; exact grown_set gS _ _ (.inr (by simp; omega))
        have hK7 : wK.heap[z]? = some (.cells #[.int .u64 t0, .int .u64 t1] 56 (0, 0)) := by rw [hwK]; exact (setCell_other _ _ _ (by simp)).trans hZ7
        have hK8 : wK.heap[z + 1]? = some (.cells (stepArr 4 nn pkZ) tStep (0, 0)) := by rw [hwK]; exact set_kind HZ.out
        clear hwK
        obtain ⟨y0, _, _, _, yf⟩ := (HD.out.mem.grown gK).cells hc
        have hyK := blk_lt (HD.out.mem.grown gK).blk
        have hlk := hlook wK gK c hc
        clear x0 x1 x2 x3 x4 x5 x6 x7 x8 xf
        go_upto_region 8 with (go_at_call 13; refine hlk.mono ?_; rintro e w3 ⟨kh, al, cl, rfl, g3⟩)
        obtain ⟨w5, hw5⟩ : ∃ w5, w5 = w3.alloc (.cells #[.int .u64 (chOf m c).hd.height, .int .u64 (chOf m c).hd.time, .int .u64 kh, .bool (chOf m c).hd.isOpen, .int .u64 (chOf m c).nextSend, .int .u64 (chOf m c).hd.nextRecv, .slice al (chOf m c).hd.packets.length cl, .int .u64 (chOf m c).locked, .int .u64 (chOf m c).about] 49) := ⟨_, rfl⟩
        have g5 : wK.grownBy w5 none := by rw [hw5]; exact grown_alloc g3 _
        have hL5 := heap_alloc_new w3 (.cells #[.int .u64 (chOf m c).hd.height, .int .u64 (chOf m c).hd.time, .int .u64 kh, .bool (chOf m c).hd.isOpen, .int .u64 (chOf m c).nextSend, .int .u64 (chOf m c).hd.nextRecv, .slice al (chOf m c).hd.packets.length cl, .int .u64 (chOf m c).locked, .int .u64 (chOf m c).about] 49)
        rw [← hw5] at hL5 ⊢
        clear hw5
        have h57 := (g5.block z (blk_lt hK7) (by simp)).trans hK7
        have h58 := (g5.block (z + 1) (blk_lt hK8) (by simp)).trans hK8
        obtain ⟨x0, x1, x2, x3, x4, x5, x6, x7, x8, xf⟩ := blk9c h58
        obtain ⟨v0, v1, v2, v3, v4, v5, v6, v7, v8, vf⟩ := blk9c hL5
        have hz5 := blk_lt h58
        have h35 := blk_lt hL5
        go_wp2_with fail
        go_meet
        case rel => exact Mid.mk (grown_set (grown_trans gK g5 (fun k e => by cases e)) _ _ (.inr (by simp; omega))) ((setCell_other _ _ _ (by simp)).trans h57) (set_num h58) (by have := (HC.out c hc).2.2.1; omega) (by have := (HC.out c hc).2.2.2; omega) (Int.le_refl 0)
  case rest =>
    have hzw := hsz
    clear hZ7 hZ8 gS hlook hsz
    obtain ⟨k, n, p, gC, hB7, hB8, hn0, hn1, hpa⟩ := hcut
    have hlz : ∀ j, w.heap.size ≤ j → labN lab w.heap.size j = 0 := fun j hj => labN_new hj
    have hWc := HD.out.mem.fresh gC
    have htk := HD.out.tk
    have hdo : ∀ v : World, wc.grownBy v none → Calls Try.prog 10 #[.pointer (some ⟨x, 0, none⟩), .int .i64 c, stepAgg k n p] v fun e w' => e = .returned (.tuple #[.int .u64 (doM m c k n p).2.1, .int .i64 (doM m c k n p).2.2]) ∧ DoTo (labN lab w.heap.size) v y x (doM m c k n p).1 L0 L1 r0 r1 (6 + 4 * N + 4) w' := fun v hv => do_at (hWc.grown hv) hc (by omega) (by omega) ⟨hn0, hn1⟩ p
    obtain ⟨rm, hrm⟩ : ∃ r, r = doM m c k n p := ⟨_, rfl⟩
    rw [← hrm] at hdo
    have HM : Hid (rm = doM m c k n p) := hrm
    clear hrm
    obtain ⟨m', sq, er⟩ := rm
    simp only at hdo
    have HW : Hid (Wm (labN lab w.heap.size) wc y x m L0 L1 r0 r1 (6 + 4 * N) ∧ w.grownBy wc none ∧ w.heap.size ≤ z) := ⟨hWc, gC, hzw⟩
    obtain ⟨y0, _, _, _, yf⟩ := hWc.cells hc
    obtain ⟨z0, z1, zf⟩ := blk2c hB7
    obtain ⟨x0, x1, x2, x3, x4, x5, x6, x7, x8, xf⟩ := blk9c hB8
    have hyl2 := blk_lt hWc.blk
    have hz7 := blk_lt hB7
    have hz8 := blk_lt hB8
    have keep3 : Hid (∀ v w3, wc.grownBy v none → DoTo (labN lab w.heap.size) v y x m' L0 L1 r0 r1 (6 + 4 * N + 4) w3 → (w3.heap[z]? = some (.cells #[.int .u64 t0, .int .u64 t1] 56 (0, 0)) ∧ w3.heap[z + 1]? = some (.cells (stepArr k n p) tStep (0, 0))) ∧ w3.cell? ⟨y, 0, none⟩ = some (.pointer (some ⟨x, 0, none⟩))) := by
      intro v w3 hv ⟨lab3, h3, st3⟩
      refine ⟨⟨?_, ?_⟩, (h3.cells hc).1⟩
      · exact (st3.block z (Nat.lt_of_lt_of_le hz7 hv.size) (hlz z hzw)).trans ((hv.block z hz7 (by simp)).trans hB7)
      · exact (st3.block (z + 1) (Nat.lt_of_lt_of_le hz8 hv.size) (hlz (z + 1) (by omega))).trans ((hv.block (z + 1) hz8 (by simp)).trans hB8)
    clear hWc htk hlz
    go_wp2_with fail
    go_region_held3 (fun w' => w'.cell? ⟨y, 0, none⟩ = some (.pointer (some ⟨x, 0, none⟩)) ∧ w'.cell? ⟨z + 1, 0, none⟩ = some (.int .i64 k) ∧ w'.cell? ⟨z + 1, 1, none⟩ = some (.int .u64 n) ∧ w'.cell? ⟨z + 1, 2, none⟩ = some (.int .u64 p.seq) ∧ w'.cell? ⟨z + 1, 3, none⟩ = some (.int .i64 p.src) ∧ w'.cell? ⟨z + 1, 4, none⟩ = some (.int .i64 p.dst) ∧ w'.cell? ⟨z + 1, 5, none⟩ = some (.int .i64 p.coin) ∧ w'.cell? ⟨z + 1, 6, none⟩ = some (.int .u64 p.amount) ∧ w'.cell? ⟨z + 1, 7, none⟩ = some (.int .u64 p.height) ∧ w'.cell? ⟨z + 1, 8, none⟩ = some (.int .u64 p.time)) (go_keep)
      (first
        | (go_at_call 10; refine (hdo _ (by first | exact grown_refl _ _ | exact grown_drew (grown_refl _ _))).mono ?_; rintro e w3 ⟨rfl, hto⟩; obtain ⟨⟨k7, k8⟩, ky⟩ := keep3.out _ _ (by first | exact grown_refl _ _ | exact grown_drew (grown_refl _ _)) hto; obtain ⟨v0, v1, v2, v3, v4, v5, v6, v7, v8, vf⟩ := blk9c k8))
    obtain ⟨z0, z1, zf⟩ := blk2c k7
    have hz7 := blk_lt k7
    have hz8 := blk_lt k8
    clear x0 x1 x2 x3 x4 x5 x6 x7 x8 xf yf y0
    obtain ⟨lab3, h3, st3⟩ := hto
    have stw : StepW lab lab3 w w3 := (StepW.ofG gC (fun j hj => labN_old hj)).trans ((StepW.ofG (lab' := labN lab w.heap.size) (grown_drew (grown_refl wc none)) (fun _ _ => rfl)).trans (StepW.ofB st3))
    have hln0 := HD.out.two.lens0 (by omega)
    have hln1 := HD.out.two.lens1 (by omega)
    have hm1 : m' = (doM m c k n p).1 := by rw [← HM.out]
    have hm2 : sq = (doM m c k n p).2.1 := by rw [← HM.out]
    have hm3 : er = (doM m c k n p).2.2 := by rw [← HM.out]
    have htk := doM_taken (m := m) (c := c) (k := k) (n := n) (p := p) (N := N) HD.out.tk
    by_cases her : er = 0
    · obtain ⟨L0', L1', tk1, tw1⟩ := doM_took (k := k) (n := n) (p := p) HD.out.two hc (by omega) hn0 (by rw [← hm3]; exact her)
      have hcn : Cons m L0 L1 → Cons (doM m c k n p).1 L0' L1' := fun e => cons_took HD.out.two e hc hpa (by rw [← hm3]; exact her) tk1
      rw [← hm1] at tk1 tw1 htk hcn
      rw [← hm2] at tk1
      have htook := took_all h3 hc (by omega) hln0 hln1 tk1
      have HF : Hid (Two m'.c0 m'.c1 L0' L1' (N + 1) ∧ (0 ≤ m'.taken ∧ m'.taken ≤ N + 1) ∧ StepW lab lab3 w w3 ∧ (Cons m L0 L1 → Cons m' L0' L1')) := ⟨tw1, htk, stw, hcn⟩
      clear hm1 hm2 hm3 tk1 tw1 htk stw hcn
      go_wp2_with (go_at_call 12; refine htook.mono ?_; rintro e w4 ⟨rfl, lab4, s0, s1, h4, st4⟩)
      go_ret
      exact ⟨rfl, MoveTo.mk h4 HF.out.1 HF.out.2.1 (HF.out.2.2.1.trans st4) HF.out.2.2.2⟩
    · have hz := doM_err (m := m) (k := k) (n := n) (p := p) hc (by rw [← hm3]; exact her)
      rw [← hm1, ← hm2] at hz
      obtain ⟨hme, hsq⟩ := hz
      rw [hme] at h3
      rw [← hm1, hme] at htk
      have htot3 := total_ok (h3.grown (grown_drew (grown_refl w3 none))) hln0 hln1
      rw [← HTT.out.1, ← HTT.out.2] at htot3
      have HF : Hid (Two m.c0 m.c1 L0 L1 (N + 1) ∧ (0 ≤ m.taken ∧ m.taken ≤ N + 1) ∧ StepW lab lab3 w w3 ∧ Wm lab3 w3 y x m L0 L1 r0 r1 (6 + 4 * N + 4)) := ⟨HD.out.two.mono (by omega), htk, stw, h3⟩
      have heq : ∀ v : World, (Op.equalIn 10000 56 (.agg #[.int .u64 t0, .int .u64 t1]) (.agg #[.int .u64 t0, .int .u64 t1])).run Try.prog v = .ok true v := fun v => by rw [eq_arr]; simp
      clear hm1 hm2 hm3 htk stw hme h3
      go_wp2_with fail
      go_region_held3 (fun w' => w'.cell? ⟨z, 0, none⟩ = some (.int .u64 t0) ∧ w'.cell? ⟨z, 1, none⟩ = some (.int .u64 t1)) (go_keep)
        (first
          | (go_at_call 16; refine htot3.mono ?_; rintro e w4 ⟨rfl, g4⟩; obtain ⟨z0', z1', zf'⟩ := blk2c ((g4.block z hz7 (by simp)).trans k7)))
      go_wp2_with fail
      go_ret
      exact ⟨rfl, MoveTo.mk (HF.out.2.2.2.grown (grown_trans (grown_drew (grown_refl w3 none)) g4 (fun k e => by cases e))) HF.out.1 HF.out.2.1 (HF.out.2.2.1.trans (StepW.ofG (grown_trans (grown_drew (grown_refl w3 none)) g4 (fun k e => by cases e)) (fun _ _ => rfl))) id⟩

end

end Go.Proofs.Ytmfdhcnnhlchbaa
