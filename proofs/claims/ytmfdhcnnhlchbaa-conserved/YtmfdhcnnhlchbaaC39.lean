import Derived.Test.YtmfdhcnnhlchbaaC38
import Derived.Test.YtmfdhcnnhlchbaaC37
namespace Go.Proofs.Ytmfdhcnnhlchbaa
open Go.RowKit Go.Maps

/-- A run of the law's world. -/
def Play (w : World) (y x N : Nat) (wr : World) : Prop := ∃ lab m L0 L1 r0 r1, Wd lab wr y x m L0 L1 r0 r1 N ∧ (∀ k, k < w.heap.size → lab k = 0) ∧ Below w.heap.size w wr ∧ Cons m L0 L1

theorem Play.step {w wr w' : World} {y x N : Nat} {lab : Nat → Nat} {m : Mod} {L0 L1 : Lg} (hl : ∀ k, k < w.heap.size → lab k = 0) (hb : Below w.heap.size w wr) (hc : Cons m L0 L1) (h : MoveTo lab wr y x m L0 L1 (N + 1) w') : Play w y x (N + 1) w' := by
  obtain ⟨lab', m', L0', L1', r0', r1', hd, st, hcn⟩ := h
  exact ⟨lab', m', L0', L1', r0', r1', hd, fun k hk => (st.label k (Nat.lt_of_lt_of_le hk hb.size)).trans (hl k hk), hb.trans (st.below hb.size hl), hcn hc⟩

def Played (w : World) (e : Ending) (w' : World) : Prop := ∃ x y N, e = .returned (.tuple #[.pointer (some ⟨y, 0, none⟩), .bool true]) ∧ N ≤ 4096 ∧ Play w y x N w'

theorem Played.mk {w : World} {e : Ending} {w' : World} {x y N : Nat} (h : e = .returned (.tuple #[.pointer (some ⟨y, 0, none⟩), .bool true])) (h1 : N ≤ 4096) (h2 : Play w y x N w') : Played w e w' := ⟨x, y, N, h, h1, h2⟩

set_option maxRecDepth 100000 in
set_option maxHeartbeats 1600000 in
theorem play_ok {w : World} (s : ByteArray) (hs : s.size ≤ 16384) : Calls Try.prog 6 #[.string s] w fun e w' => Played w e w' := by
  obtain ⟨n, hn⟩ : ∃ n, n = s.size := ⟨_, rfl⟩
  have hn' : s.size = n := hn.symm
  have hbeg := begin_wd (w := w)
  have HN : Hid (n = s.size ∧ n ≤ 16384) := ⟨hn, by omega⟩
  clear hn hs
  go_enter Try.func6, Try.ntmps6
  go_wp2_with (go_at_call 7; refine hbeg.mono ?_; rintro e w1 ⟨x, y, lab, rfl, hd, hl0, g1⟩)
  have HP0 : Hid (Play w y x 0 w1) := ⟨lab, _, _, _, _, _, hd, hl0, ⟨g1.os, g1.tape, g1.output, g1.size, fun k hk => g1.block k hk (by simp)⟩, cons_new⟩
  clear hd hl0 g1 hbeg
  go_loopw [6] (fun vi wr => ∃ q : Nat, vi = .int .i64 ((4 * q : Nat) : Int) ∧ 4 * q ≤ n ∧ Play w y x q wr) (fun vi _ => n + 4 - (intV vi).toNat)
  case atStart => exact ⟨0, rfl, by omega, HP0.out⟩
  case round =>
    obtain ⟨q, rfl, hq, hP⟩ := hrel
    have hle := HN.out.2
    obtain ⟨e, he⟩ : ∃ e, e = 4 * q := ⟨_, rfl⟩
    rw [← he]
    have w3 : IntKind.i64.wrap ((e : Int) + 3) = (e : Int) + 3 := by have := wrap_i (n := e + 3) (by omega); simpa using this
    have w4 : IntKind.i64.wrap ((e : Int) + 4) = (e : Int) + 4 := by have := wrap_i (n := e + 4) (by omega); simpa using this
    by_cases hlt : e + 3 < n
    · have hltz : (e : Int) + 3 < (n : Int) := by omega
      obtain ⟨lab', m', L0, L1, r0, r1, hd, hl, hb, hcn⟩ := hP
      have hmv := move_ok hd (by omega) (s.extract e (e + 4)) (by rw [ByteArray.size_extract, ← HN.out.1]; omega)
      have HH : Hid (e = 4 * q ∧ (∀ k, k < w.heap.size → lab' k = 0) ∧ Below w.heap.size w wr ∧ Cons m' L0 L1) := ⟨he, hl, hb, hcn⟩
      clear hd hl hb he hcn
      go_wp2_with (go_at_call 9; refine hmv.mono ?_; rintro e2 w2 ⟨rfl, hto⟩)
      go_roundw
      case rel => exact ⟨q + 1, by have := HH.out.1; simp; omega, by have := HH.out.1; omega, Play.step HH.out.2.1 HH.out.2.2.1 HH.out.2.2.2 hto⟩
      case measure => have := HH.out.1; simp [intV]; omega
    · have hltz : ¬ (e : Int) + 3 < (n : Int) := by omega
      have HP : Hid (Play w y x q wr ∧ q ≤ 4096) := ⟨hP, by omega⟩
      clear hP he
      go_wp2_with fail
      go_ret2
      exact Played.mk rfl HP.out.2 HP.out.1

set_option maxRecDepth 100000 in
set_option maxHeartbeats 1600000 in
theorem once_ok (s : ByteArray) (w : World) : Calls Try.prog 3 #[.string s] w fun e w' => e = .returned (.bool true) ∧ Below w.heap.size w w' := by
  obtain ⟨n, hn⟩ : ∃ n, n = s.size := ⟨_, rfl⟩
  have hn' : s.size = n := hn.symm
  by_cases hs : n ≤ 16384
  · have hsz : ¬ (16384 : Int) < (n : Int) := by omega
    have hp := play_ok (w := w) s (by omega)
    clear hn
    go_enter Try.func3, Try.ntmps3
    go_wp2_with (go_at_call 6; refine hp.mono ?_; rintro e w1 ⟨x, y, N, rfl, hN, lab, m, L0, L1, r0, r1, hd, hl, hb, hcn⟩)
    go_ret
    exact ⟨rfl, hb⟩
  · have hsz : (16384 : Int) < (n : Int) := by omega
    clear hn
    go_enter Try.func3, Try.ntmps3
    go_wp2_with fail
    go_ret
    exact ⟨rfl, Below.refl _ _⟩

end Go.Proofs.Ytmfdhcnnhlchbaa

namespace Go.Proofs.Ytmfdhcnnhlchbaa
open Go.RowKit

section
variable {m : Mod} {L0 L1 : Lg}

theorem wrap3 {a x y z : Int} (ha : 0 ≤ a) (hx : 0 ≤ x) (hy : 0 ≤ y) (hz : 0 ≤ z) (h : a + x + y + z < 18446744073709551616) : IntKind.u64.wrap (IntKind.u64.wrap (IntKind.u64.wrap (a + x) + y) + z) = a + x + y + z := by
  simp only [IntKind.wrap_u64]; omega

theorem balM0 (h : Nn m.c0) (j : Nat) (hj : j < 2) : (0 ≤ balM m 0 0 j ∧ 0 ≤ balM m 0 1 j ∧ 0 ≤ balM m 0 2 j) ∧ balM m 0 0 j + balM m 0 1 j + balM m 0 2 j = m.c0.bal j := by
  obtain ⟨a0, a1, a2, a3, a4, a5⟩ := h
  rcases (show j = 0 ∨ j = 1 by omega) with rfl | rfl <;> simp [balM, chainOf, hasAt, Ch.get, Ch.bal] <;> omega

theorem balM1 (h : Nn m.c1) (j : Nat) (hj : j < 2) : (0 ≤ balM m 1 0 j ∧ 0 ≤ balM m 1 1 j ∧ 0 ≤ balM m 1 2 j) ∧ balM m 1 0 j + balM m 1 1 j + balM m 1 2 j = m.c1.bal j := by
  obtain ⟨a0, a1, a2, a3, a4, a5⟩ := h
  rcases (show j = 0 ∨ j = 1 by omega) with rfl | rfl <;> simp [balM, chainOf, hasAt, Ch.get, Ch.bal] <;> omega

/-- What coin j comes to. -/
theorem Eyes.sum (e : Cons m L0 L1) (j : Nat) (hj : j < 2) : m.c0.bal j + m.c1.bal j + (wayAll L0 j + wayAll L1 j) = 3000 := by
  rcases (show j = 0 ∨ j = 1 by omega) with rfl | rfl
  · have := e.mine; simpa using this
  · have := e.theirs; simpa using this

theorem tot_is (e : Cons m L0 L1) (j : Nat) (hj : j < 2) : totM m L0 L1 j = 3000 := by
  have hs := e.sum j hj
  have w0 : 0 ≤ wayAll L0 j := way_nn (j := (j : Int)) e.qs L0.sent.length
  have w1 : 0 ≤ wayAll L1 j := way_nn (j := (j : Int)) e.qo L1.sent.length
  obtain ⟨⟨x0, x1, x2⟩, xs⟩ := balM0 e.pS j hj
  obtain ⟨⟨y0, y1, y2⟩, ys⟩ := balM1 e.pO j hj
  have hw0 : wayAll L0 j = way L0 j L0.sent.length := rfl
  have hw1 : wayAll L1 j = way L1 j L1.sent.length := rfl
  have u0 : accU m 0 j 0 3 = m.c0.bal j := by
    show IntKind.u64.wrap (IntKind.u64.wrap (IntKind.u64.wrap (0 + balM m 0 0 j) + balM m 0 1 j) + balM m 0 2 j) = _
    rw [wrap3 (Int.le_refl 0) x0 x1 x2 (by omega)]
    omega
  have c1 : accC m L0 L1 j 1 = m.c0.bal j + wayAll L0 j := by
    show under L0 j (accU m 0 j 0 3) L0.sent.length = _
    rw [u0, under_way e.qs _ (by omega) (by omega)]
  have u1 : accU m 1 j (m.c0.bal j + wayAll L0 j) 3 = m.c0.bal j + wayAll L0 j + m.c1.bal j := by
    show IntKind.u64.wrap (IntKind.u64.wrap (IntKind.u64.wrap (m.c0.bal j + wayAll L0 j + balM m 1 0 j) + balM m 1 1 j) + balM m 1 2 j) = _
    rw [wrap3 (by omega) y0 y1 y2 (by omega)]
    omega
  show under L1 j (accU m 1 j (accC m L0 L1 j 1) 3) L1.sent.length = _
  rw [c1, u1, under_way e.qo _ (by omega) (by omega)]
  omega

/-- What is locked, and what is about and under way. -/
def abC (L0 L1 : Lg) (a0 : Int) (j : Int) : Nat → Int
  | 0 => a0
  | c + 1 => under (lgOf L0 L1 c) j (abC L0 L1 a0 j c) (lgOf L0 L1 c).sent.length

theorem lock_is (e : Cons m L0 L1) (j d : Nat) (hd : d + j = 1) : (chOf m j).locked = abC L0 L1 (chOf m d).about j 2 := by
  have hj : j < 2 := by omega
  have hs := e.sum j hj
  have w0 : 0 ≤ wayAll L0 j := way_nn (j := (j : Int)) e.qs L0.sent.length
  have w1 : 0 ≤ wayAll L1 j := way_nn (j := (j : Int)) e.qo L1.sent.length
  have hw0 : wayAll L0 j = way L0 j L0.sent.length := rfl
  have hw1 : wayAll L1 j = way L1 j L1.sent.length := rfl
  obtain ⟨a0, a1, a2, a3, a4, a5⟩ := e.pS
  obtain ⟨b0, b1, b2, b3, b4, b5⟩ := e.pO
  have hb : 0 ≤ m.c0.bal j := by unfold Ch.bal; split <;> omega
  have hb1 : 0 ≤ m.c1.bal j := by unfold Ch.bal; split <;> omega
  have key : (chOf m j).locked = (chOf m d).about + (wayAll L0 j + wayAll L1 j) ∧ 0 ≤ (chOf m d).about ∧ (chOf m d).about ≤ 3000 - (wayAll L0 j + wayAll L1 j) := by
    rcases (show j = 0 ∨ j = 1 by omega) with rfl | rfl
    · obtain rfl : d = 1 := by omega
      have h1 : m.c0.locked = m.c1.about + (wayAll L0 ((0 : Nat) : Int) + wayAll L1 ((0 : Nat) : Int)) := e.lockS
      have h2 : m.c1.about = m.c1.bal ((0 : Nat) : Int) := e.abO
      exact ⟨h1, by show 0 ≤ m.c1.about; omega, by show m.c1.about ≤ _; omega⟩
    · obtain rfl : d = 0 := by omega
      have h1 : m.c1.locked = m.c0.about + (wayAll L0 ((1 : Nat) : Int) + wayAll L1 ((1 : Nat) : Int)) := e.lockO
      have h2 : m.c0.about = m.c0.bal ((1 : Nat) : Int) := e.abS
      exact ⟨h1, by show 0 ≤ m.c0.about; omega, by show m.c0.about ≤ _; omega⟩
  obtain ⟨k1, k2, k3⟩ := key
  show _ = under L1 j (under L0 j (chOf m d).about L0.sent.length) L1.sent.length
  rw [under_way e.qs _ k2 (by omega), under_way e.qo _ (by omega) (by omega)]
  omega

end

end Go.Proofs.Ytmfdhcnnhlchbaa
