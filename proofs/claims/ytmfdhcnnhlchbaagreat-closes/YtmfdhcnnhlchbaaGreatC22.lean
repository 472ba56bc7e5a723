import Derived.Test.YtmfdhcnnhlchbaaGreatC21
import Derived.Deep.Cut
import Derived.Sort.LotD5
import Derived.Laws.Bits64
import Derived.Laws.Bits64b
namespace Go.Proofs.YtmfdhcnnhlchbaaGreat
open Go.RowKit Go.Sort

set_option maxRecDepth 1000000

abbrev len8 : ByteArray := ⟨#[0, 1, 2, 2, 3, 3, 3, 3, 4, 4, 4, 4, 4, 4, 4, 4, 5, 5, 5, 5, 5, 5, 5, 5, 5, 5, 5, 5, 5, 5, 5, 5, 6, 6, 6, 6, 6, 6, 6, 6, 6, 6, 6, 6, 6, 6, 6, 6, 6, 6, 6, 6, 6, 6, 6, 6, 6, 6, 6, 6, 6, 6, 6, 6, 7, 7, 7, 7, 7, 7, 7, 7, 7, 7, 7, 7, 7, 7, 7, 7, 7, 7, 7, 7, 7, 7, 7, 7, 7, 7, 7, 7, 7, 7, 7, 7, 7, 7, 7, 7, 7, 7, 7, 7, 7, 7, 7, 7, 7, 7, 7, 7, 7, 7, 7, 7, 7, 7, 7, 7, 7, 7, 7, 7, 7, 7, 7, 7, 8, 8, 8, 8, 8, 8, 8, 8, 8, 8, 8, 8, 8, 8, 8, 8, 8, 8, 8, 8, 8, 8, 8, 8, 8, 8, 8, 8, 8, 8, 8, 8, 8, 8, 8, 8, 8, 8, 8, 8, 8, 8, 8, 8, 8, 8, 8, 8, 8, 8, 8, 8, 8, 8, 8, 8, 8, 8, 8, 8, 8, 8, 8, 8, 8, 8, 8, 8, 8, 8, 8, 8, 8, 8, 8, 8, 8, 8, 8, 8, 8, 8, 8, 8, 8, 8, 8, 8, 8, 8, 8, 8, 8, 8, 8, 8, 8, 8, 8, 8, 8, 8, 8, 8, 8, 8, 8, 8, 8, 8, 8, 8, 8, 8, 8, 8, 8, 8, 8, 8, 8, 8, 8, 8, 8, 8, 8, 8]⟩

theorem tab_all : ∀ i : Fin 256, ((len8[i.1]'(by show i.1 < 256; exact i.2)).toNat = bitsLen i.1) := by decide +kernel

theorem tab_is (k : Nat) (hk : k < 256) : (len8[k]'(by show k < 256; exact hk)).toNat = bitsLen k := tab_all ⟨k, hk⟩

theorem bits8 {k : Nat} (hk : k < 256) : bitsLen k ≤ 8 := (bitsLen_le_iff k 8).2 (by simpa using hk)

theorem bitsLen_up {n : Nat} (h : 256 ≤ n) : bitsLen n = bitsLen (n / 256) + 8 := by
  apply Nat.le_antisymm
  · rw [bitsLen_le_iff]
    have := lt_two_pow_bitsLen (n / 256)
    rw [Nat.pow_add]
    have e : (2 : Nat) ^ 8 = 256 := by decide
    rw [e]
    have := Nat.div_add_mod n 256
    have := Nat.mod_lt n (show 0 < 256 by decide)
    generalize 2 ^ bitsLen (n / 256) = p at *
    generalize hq : n / 256 = q at *
    have : q * 256 + 256 ≤ p * 256 := by rw [← Nat.succ_mul]; exact Nat.mul_le_mul_right _ (by omega)
    omega
  · have h8 : 8 ≤ bitsLen n := by
      rcases Nat.lt_or_ge (bitsLen n) 8 with h1 | h1
      · have := (bitsLen_le_iff n 7).1 (by omega)
        have e : (2 : Nat) ^ 7 = 128 := by decide
        omega
      · exact h1
    have h2 : bitsLen (n / 256) ≤ bitsLen n - 8 := by
      rw [bitsLen_le_iff]
      have := lt_two_pow_bitsLen n
      rw [show bitsLen n = bitsLen n - 8 + 8 from by omega, Nat.pow_add] at this
      have e : (2 : Nat) ^ 8 = 256 := by decide
      rw [e] at this
      exact Nat.div_lt_of_lt_mul (by rw [Nat.mul_comm]; exact this)
    omega

set_option maxHeartbeats 4000000 in
theorem len64_a (k : Nat) (hk : k < 256) (w : World) : Calls Tryz.prog 107 #[.int .u64 k] w fun e w' => e = .returned (.int .i64 (bitsLen k : Nat)) ∧ w' = w := by
  have h1 : ¬ (4294967296 : Int) ≤ k := by omega
  have h2 : ¬ (65536 : Int) ≤ k := by omega
  have h3 : ¬ (256 : Int) ≤ k := by omega
  have h4 : IntKind.u8.wrap (k : Int) = k := by simp [IntKind.wrap, IntKind.bits, IntKind.signed]; omega
  go_enter Tryz.func107, Tryz.ntmps107
  go_wp2_with fail
  go_ret
  refine ⟨?_, rfl⟩
  show Ending.returned (Value.int .i64 (wrap64 (wrap64 ((len8[k]'(by show k < 256; exact hk)).toNat : Int)))) = _
  rw [tab_is k hk]
  have := bits8 hk
  congr 2
  unfold wrap64
  omega

set_option maxHeartbeats 4000000 in
theorem len64_b (n k : Nat) (hn : n / 256 = k) (h0 : 256 ≤ n) (hn2 : n < 65536) (w : World) : Calls Tryz.prog 107 #[.int .u64 n] w fun e w' => e = .returned (.int .i64 (bitsLen k + 8 : Nat)) ∧ w' = w := by
  have hk : k < 256 := by omega
  have h1 : ¬ (4294967296 : Int) ≤ n := by omega
  have h2 : ¬ (65536 : Int) ≤ n := by omega
  have h3 : (256 : Int) ≤ n := by omega
  have h5 : Hid ((n : Int) / 256 = k) := by show (n : Int) / 256 = k; omega
  have h4 : IntKind.u8.wrap (k : Int) = k := by simp [IntKind.wrap, IntKind.bits, IntKind.signed]; omega
  clear hn h0 hn2
  go_enter Tryz.func107, Tryz.ntmps107
  go_upto_region 10 with fail
  rw [h5.out]
  clear h1 h2 h3 h5
  go_wp2_with fail
  go_ret
  refine ⟨?_, rfl⟩
  show Ending.returned (Value.int .i64 (wrap64 (8 + (wrap64 ((len8[k]'(by show k < 256; exact hk)).toNat : Int))))) = _
  rw [tab_is k hk]
  have := bits8 hk
  congr 2
  unfold wrap64
  omega

set_option maxHeartbeats 4000000 in
theorem len64_d (n k : Nat) (hm : n / 65536 = k) (h0 : 65536 ≤ n) (hk : k < 256) (w : World) : Calls Tryz.prog 107 #[.int .u64 n] w fun e w' => e = .returned (.int .i64 (bitsLen k + 16 : Nat)) ∧ w' = w := by
  have h1 : ¬ (4294967296 : Int) ≤ n := by omega
  have h2 : (65536 : Int) ≤ n := by omega
  have h6 : (n : Int) / 65536 = k := by omega
  have h3 : ¬ (256 : Int) ≤ k := by omega
  have h4 : IntKind.u8.wrap (k : Int) = k := by simp [IntKind.wrap, IntKind.bits, IntKind.signed]; omega
  clear hm h0
  go_enter Tryz.func107, Tryz.ntmps107
  go_wp2_with fail
  go_ret
  refine ⟨?_, rfl⟩
  show Ending.returned (Value.int .i64 (wrap64 (16 + (wrap64 ((len8[k]'(by show k < 256; exact hk)).toNat : Int))))) = _
  rw [tab_is k hk]
  have := bits8 hk
  congr 2
  unfold wrap64
  omega

theorem len64_is (n : Nat) (hn : n < 16777216) (w : World) : Calls Tryz.prog 107 #[.int .u64 n] w fun e w' => e = .returned (.int .i64 (bitsLen n : Nat)) ∧ w' = w := by
  by_cases h1 : n < 256
  · exact len64_a n h1 w
  · by_cases h2 : n < 65536
    · rw [bitsLen_up (n := n) (by omega)]
      exact len64_b n _ rfl (by omega) h2 w
    · have e1 : bitsLen n = bitsLen (n / 65536) + 16 := by rw [bitsLen_up (n := n) (by omega), bitsLen_up (n := n / 256) (by omega), Nat.div_div_eq_div_mul]
      rw [e1]
      exact len64_d n _ rfl (by omega) (by omega) w

theorem len_is (n : Nat) (hn : n < 16777216) (w : World) : Calls Tryz.prog 96 #[.int .u64 n] w fun e w' => e = .returned (.int .i64 (bitsLen n : Nat)) ∧ w' = w := by
  have hc := len64_is n hn w
  generalize bitsLen n = m at hc
  go_enter Tryz.func96, Tryz.ntmps96
  go_wp2_with fail
  refine hc.mono ?_
  rintro e w1 ⟨rfl, rfl⟩
  go_wp2_with fail
  go_ret
  exact ⟨rfl, rfl⟩

end Go.Proofs.YtmfdhcnnhlchbaaGreat

namespace Go.Proofs.YtmfdhcnnhlchbaaGreat
open Go.RowKit Go.Sort

/-- The generator's state, that only its maker has. -/
def RndAt (w : World) (s n : Nat) : Prop := w.heap[s]? = some (.cells #[.int .u64 (n : Int)] 191 (0, 0))

structure Rolled (w : World) (s n : Nat) (w' : World) : Prop where
  box : RndAt w' s n
  by_ : w.grownBy w' (some s)
  size : w'.heap.size = w.heap.size

theorem Rolled.trans {w w1 w2 : World} {s n m : Nat} (h1 : Rolled w s n w1) (h2 : Rolled w1 s m w2) : Rolled w s m w2 := ⟨h2.box, grown_trans h1.by_ h2.by_ (fun _ e => .inl e), h2.size.trans h1.size⟩

theorem RndAt.set {w : World} {s n : Nat} (h : RndAt w s n) (m : Nat) : Rolled w s m (w.drew.setCell ⟨s, 0, none⟩ (.int .u64 (m : Int))) :=
  ⟨by unfold RndAt; rw [setCell_same (w := w.drew) h]; rfl, grown_set (grown_drew (grown_refl w _)) _ _ (.inl rfl), setCell_size _ _ _⟩

theorem RndAt.cell {w : World} {s n : Nat} (h : RndAt w s n) : w.cell? ⟨s, 0, none⟩ = some (.int .u64 (n : Int)) := by unfold RndAt at h; simp [World.cell?, h]
theorem RndAt.free {w : World} {s n : Nat} (h : RndAt w s n) : w.frozen? ⟨s, 0, none⟩ = false := by unfold RndAt at h; simp [World.frozen?, h]

set_option maxRecDepth 100000 in
set_option maxHeartbeats 1600000 in
theorem next_is {w : World} {s X : Nat} (hX : X < 18446744073709551616) (hb : RndAt w s X) :
    Calls Tryz.prog 110 #[.pointer (some ⟨s, 0, none⟩)] w fun e w' => e = .returned (.int .u64 (xorNextN X : Nat)) ∧ Rolled w s (xorNextN X) w' := by
  obtain ⟨A, hA⟩ : ∃ A : Nat, A = X ^^^ (X * 8192 % 18446744073709551616) := ⟨_, rfl⟩
  obtain ⟨D, hD⟩ : ∃ D : Nat, D = A ^^^ (A / 128) := ⟨_, rfl⟩
  obtain ⟨C, hC⟩ : ∃ C : Nat, C = D ^^^ (D * 131072 % 18446744073709551616) := ⟨_, rfl⟩
  have lA : A < 18446744073709551616 := by rw [hA]; exact Nat.xor_lt_two_pow (n := 64) (by omega) (by omega)
  have lD : D < 18446744073709551616 := by rw [hD]; exact Nat.xor_lt_two_pow (n := 64) (by omega) (by omega)
  have e1 : bits .xor .u64 (X : Int) (IntKind.u64.wrap ((X : Int) * 8192)) = (A : Int) := by
    rw [IntKind.wrap_u64, show ((X : Int) * 8192 % 18446744073709551616) = ((X * 8192 % 18446744073709551616 : Nat) : Int) by omega, bits_xor_u64_nat _ _ hX (by omega), hA]
  have e2 : bits .xor .u64 (A : Int) ((A : Int) / 128) = (D : Int) := by
    rw [show ((A : Int) / 128) = ((A / 128 : Nat) : Int) by omega, bits_xor_u64_nat _ _ lA (by omega), hD]
  have e3 : bits .xor .u64 (D : Int) (IntKind.u64.wrap ((D : Int) * 131072)) = (C : Int) := by
    rw [IntKind.wrap_u64, show ((D : Int) * 131072 % 18446744073709551616) = ((D * 131072 % 18446744073709551616 : Nat) : Int) by omega, bits_xor_u64_nat _ _ lD (by omega), hC]
  have hv : xorNextN X = C := by unfold xorNextN; simp only []; rw [← hA, ← hD, ← hC]
  rw [hv]
  clear hA hD hC hv lA lD hX
  have c0 := hb.cell
  have f0 := hb.free
  have H0 : Hid (RndAt w s X) := hb
  clear hb
  go_enter Tryz.func110, Tryz.ntmps110
  go_wp2
  go_region
  have r1 : Hid (Rolled w s A (w.drew.setCell ⟨s, 0, none⟩ (.int .u64 (A : Int)))) := H0.out.set A
  obtain ⟨w1, ew1⟩ : ∃ y : World, y = w.drew.setCell ⟨s, 0, none⟩ (.int .u64 (A : Int)) := ⟨_, rfl⟩
  change Exit.then _ _ _ _ (w.drew.setCell ⟨s, 0, none⟩ (.int .u64 (A : Int)))
  rw [← ew1] at r1 ⊢
  clear ew1 c0 f0
  have c1 := r1.out.box.cell
  have f1 := r1.out.box.free
  go_wp2
  go_region
  have r2 : Hid (Rolled w1 s D (w1.drew.setCell ⟨s, 0, none⟩ (.int .u64 (D : Int)))) := r1.out.box.set D
  obtain ⟨w2, ew2⟩ : ∃ y : World, y = w1.drew.setCell ⟨s, 0, none⟩ (.int .u64 (D : Int)) := ⟨_, rfl⟩
  change Exit.then _ _ _ _ (w1.drew.setCell ⟨s, 0, none⟩ (.int .u64 (D : Int)))
  rw [← ew2] at r2 ⊢
  clear ew2 c1 f1
  have c2 := r2.out.box.cell
  have f2 := r2.out.box.free
  go_wp2
  go_region
  have r3 : Hid (Rolled w2 s C (w2.drew.setCell ⟨s, 0, none⟩ (.int .u64 (C : Int)))) := r2.out.box.set C
  obtain ⟨w3, ew3⟩ : ∃ y : World, y = w2.drew.setCell ⟨s, 0, none⟩ (.int .u64 (C : Int)) := ⟨_, rfl⟩
  change Exit.then _ _ _ _ (w2.drew.setCell ⟨s, 0, none⟩ (.int .u64 (C : Int)))
  rw [← ew3] at r3 ⊢
  clear ew3 c2 f2
  have c3 := r3.out.box.cell
  go_wp2
  go_ret
  exact ⟨rfl, (r1.out.trans r2.out).trans r3.out⟩

theorem pow_is {m : Nat} (hm : m ≤ 62) : IntKind.u64.wrap ((2 : Int) ^ m) = ((1 <<< m : Nat) : Int) := by
  have h : (2 : Nat) ^ m ≤ 2 ^ 62 := Nat.pow_le_pow_right (by decide) hm
  have e : (2 : Int) ^ m = ((2 ^ m : Nat) : Int) := by push_cast; rfl
  rw [IntKind.wrap_u64, Nat.one_shiftLeft, e]
  generalize (2 : Nat) ^ m = q at h
  have : (2 : Nat) ^ 62 = 4611686018427387904 := by decide
  omega

set_option maxRecDepth 100000 in
theorem nextPow_is (n : Nat) (hn : n < 16777216) (w : World) : Calls Tryz.prog 109 #[.int .i64 n] w fun e w' => e = .returned (.int .u64 ((1 <<< bitsLen n : Nat) : Int)) ∧ w' = w := by
  have hm : bitsLen n ≤ 62 := (bitsLen_le_iff n 62).2 (by omega)
  have hc := len_is n hn w
  have hp := pow_is hm
  have hw : IntKind.u64.wrap (n : Int) = n := by rw [IntKind.wrap_u64]; omega
  generalize bitsLen n = m at hc hp hm
  generalize (1 <<< m : Nat) = M at hp
  go_enter Tryz.func109, Tryz.ntmps109
  go_wp2_with fail
  refine hc.mono ?_
  rintro e w1 ⟨rfl, rfl⟩
  go_wp2_with fail
  go_ret
  exact ⟨rfl, rfl⟩

end Go.Proofs.YtmfdhcnnhlchbaaGreat

namespace Go.Proofs.YtmfdhcnnhlchbaaGreat
open Go.RowKit Go.Sort

/-- So many rounds are left, t are over. -/
def roll (a l M i0 : Nat) : Nat → Nat → UInt64 × Array Int → Array Int
  | 0, _, st => st.2
  | k + 1, t, st => roll a l M i0 k (t + 1) (breakStep a l M st (i0 + t))

theorem roll_on (a l M i0 t : Nat) (r : UInt64) (d : Array Int) (q : Nat) (ht : t < 3) (hq : (if (xorNext r).toNat &&& (M - 1) ≥ l then ((xorNext r).toNat &&& (M - 1)) - l else (xorNext r).toNat &&& (M - 1)) = q) :
    roll a l M i0 (3 - t) t (r, d) = roll a l M i0 (3 - (t + 1)) (t + 1) (xorNext r, swp d (i0 + t) (a + q)) := by
  rw [show 3 - t = 3 - (t + 1) + 1 from by omega]
  conv => lhs; unfold roll
  unfold breakStep
  simp only [hq]

theorem break_roll (d : Array Int) (a b l : Nat) (hl : b - a = l) (h8 : 8 ≤ l) : breakPatterns d a b = roll a l (1 <<< bitsLen l) (a + l / 4 * 2 - 1) 3 0 (UInt64.ofNat l, d) := by
  unfold breakPatterns
  simp only [hl]
  rw [if_pos h8]
  rfl

/-- The row, and the generator's state. -/
structure Brk (w : World) (g o N : Nat) (d : Array Int) (s n : Nat) (wr : World) : Prop where
  row : RowAt wr g o N d
  box : RndAt wr s n
  by_ : w.grownBy wr (some g)
  big : w.heap.size ≤ s
  lt : g < w.heap.size

theorem Brk.rolled {w wr w2 : World} {g o N s n m : Nat} {d : Array Int} (h : Brk w g o N d s n wr) (p : Rolled wr s m w2) : Brk w g o N d s m w2 :=
  ⟨h.row.keep (p.by_.block g h.row.lt (fun e => by have := h.lt; have := h.big; simp at e; omega)), p.box, grown_trans h.by_ p.by_ (fun k e => by cases e; exact .inr h.big), h.big, h.lt⟩

theorem Brk.swapped {w wr : World} {g o N s n m : Nat} {d : Array Int} (h : Brk w g o N d s n wr) {i j : Nat} (hi : i < d.size) (hj : j < d.size) (e : n = m) : Brk w g o N (swp d i j) s m ((wr.drew.setCell ⟨g, o + i, none⟩ (.int .u64 d[j]!)).setCell ⟨g, o + j, none⟩ (.int .u64 d[i]!)) := by
  subst e
  have hne : s ≠ g := by have := h.lt; have := h.big; omega
  exact ⟨(h.row.heap (w' := wr.drew) rfl).swap hi hj, by unfold RndAt; rw [setCell_other _ _ _ hne, setCell_other _ _ _ hne]; exact h.box, grown_set (grown_set (grown_drew h.by_) _ _ (.inl rfl)) _ _ (.inl rfl), h.big, h.lt⟩

set_option maxRecDepth 100000 in
set_option maxHeartbeats 8000000 in
/-- slices.breakPatternsOrdered. -/
theorem break_is {w : World} {g o N cap a b n : Nat} {d : Array Int} (hn : d.size = n) (h : RowAt w g o N d) (hab : a ≤ b) (hb : b ≤ n) (hs : n < 16777216) :
    Calls Tryz.prog 99 #[.slice (some ⟨g, o, none⟩) n cap, .int .i64 a, .int .i64 b] w fun e w' => e = .returned (.tuple #[]) ∧ RowAt w' g o N (breakPatterns d a b) ∧ w.grownBy w' (some g) := by
  obtain ⟨l, el⟩ : ∃ l : Nat, (b : Int) - a = l := ⟨b - a, by omega⟩
  have ul := wrap_i (n := l) (by omega)
  by_cases h8 : l < 8
  · have HE : Hid (breakPatterns d a b = d) := by
      show breakPatterns d a b = d
      unfold breakPatterns
      simp only []
      rw [if_neg (by omega)]
    go_enter Tryz.func99, Tryz.ntmps99
    go_wp2_with fail
    go_end0
    exact ⟨rfl, by rw [HE.out]; exact h, grown_refl w _⟩
  · obtain ⟨M, hM⟩ : ∃ M : Nat, 1 <<< bitsLen l = M := ⟨_, rfl⟩
    have hM1 : 1 ≤ M := by rw [← hM, Nat.one_shiftLeft]; exact Nat.two_pow_pos _
    have hM2 : M ≤ 2 * l := by rw [← hM, Nat.one_shiftLeft]; exact two_pow_bitsLen_le (by omega)
    have hNP := fun w => nextPow_is l (by omega) w
    rw [hM] at hNP
    obtain ⟨q, eq⟩ : ∃ q : Nat, (l : Int) / 4 = q := ⟨l / 4, by omega⟩
    obtain ⟨q2, eq2⟩ : ∃ m : Nat, (q : Int) * 2 = m := ⟨q * 2, by omega⟩
    obtain ⟨j0, ej⟩ : ∃ m : Nat, (a : Int) + q2 = m := ⟨a + q2, by omega⟩
    obtain ⟨i0, ei⟩ : ∃ m : Nat, (j0 : Int) - 1 = m := ⟨j0 - 1, by omega⟩
    obtain ⟨k0, ek⟩ : ∃ m : Nat, (j0 : Int) + 1 = m := ⟨j0 + 1, by omega⟩
    have u2 := wrap_i (n := q) (by omega)
    have u3 := wrap_i (n := q2) (by omega)
    have u4 := wrap_i (n := j0) (by omega)
    have u5 := wrap_i (n := i0) (by omega)
    have u6 := wrap_i (n := k0) (by omega)
    have uu : IntKind.u64.wrap (l : Int) = l := by rw [IntKind.wrap_u64]; omega
    have HE : Hid (breakPatterns d a b = roll a l M i0 3 0 (UInt64.ofNat l, d)) := by
      show breakPatterns d a b = _
      rw [break_roll d a b l (by omega) (by omega), hM, show a + l / 4 * 2 - 1 = i0 from by omega]
    obtain ⟨w1, ew1⟩ : ∃ y : World, y = w.alloc (.cells #[.int .u64 (l : Int)] 191) := ⟨_, rfl⟩
    have hl1 : (UInt64.ofNat l).toNat = l := by simp; omega
    have HB1 : Hid (Brk w g o N d w.heap.size (UInt64.ofNat l).toNat w1) := by
      show Brk w g o N d w.heap.size (UInt64.ofNat l).toNat w1
      have g1 : w.grownBy w1 none := by rw [ew1]; exact World.grownBy_alloc _ _ _
      exact ⟨h.keep (g1.block g h.lt (by simp)), by rw [hl1, ew1]; exact heap_alloc_new w _, grown_none g1 _, Nat.le_refl _, h.lt⟩
    have hgl := h.lt
    clear h hM
    go_enter Tryz.func99, Tryz.ntmps99
    go_wp2_with fail
    rw [← ew1]
    clear ew1
    refine (hNP _).mono ?_
    rintro e w2 ⟨rfl, rfl⟩
    go_wp2_with fail
    go_loopw [9] (fun vi wr => ∃ (t : Nat) (r : UInt64) (dk : Array Int), vi = .int .i64 ((i0 + t : Nat) : Int) ∧ t ≤ 3 ∧ dk.size = n ∧ Brk w g o N dk w.heap.size r.toNat wr ∧ roll a l M i0 (3 - t) t (r, dk) = roll a l M i0 3 0 (UInt64.ofNat l, d)) (fun vi _ => i0 + 4 - (intV vi).toNat)
    case atStart => exact ⟨0, UInt64.ofNat l, d, rfl, by omega, hn, HB1.out, rfl⟩
    case round =>
      obtain ⟨t, r, dk, rfl, ht, hsk, hBr, hR⟩ := hrel
      have HR : Hid (roll a l M i0 (3 - t) t (r, dk) = roll a l M i0 3 0 (UInt64.ofNat l, d)) := hR
      have HB : Hid (Brk w g o N dk w.heap.size r.toNat wr) := hBr
      clear hR hBr
      obtain ⟨it, eit⟩ : ∃ m : Nat, m = i0 + t := ⟨_, rfl⟩
      rw [← eit]
      have HIT : Hid (it = i0 + t) := eit
      by_cases ht3 : t < 3
      · have hle : (it : Int) ≤ k0 := by omega
        have nit : it < n := by omega
        clear eit
        obtain ⟨R, hRr⟩ : ∃ R : Nat, R = r.toNat := ⟨_, rfl⟩
        have lR : R < 18446744073709551616 := by rw [hRr]; exact r.toNat_lt
        have hnext := next_is lR (by rw [hRr]; exact HB.out.box)
        obtain ⟨R', hR'⟩ : ∃ R' : Nat, R' = xorNextN R := ⟨_, rfl⟩
        rw [← hR'] at hnext
        have lR' : R' < 18446744073709551616 := by rw [hR']; exact xorNextN_lt R lR
        have HN : Hid (R' = (xorNext r).toNat) := by
          show R' = (xorNext r).toNat
          rw [hR', hRr, xorNext_toNat]
        obtain ⟨O, hO⟩ : ∃ O : Nat, O = R' &&& (M - 1) := ⟨_, rfl⟩
        have lO : O ≤ M - 1 := by rw [hO]; exact Nat.and_le_right
        have HO : Hid (O = R' &&& (M - 1)) := hO
        obtain ⟨M1, eM1⟩ : ∃ m : Nat, (M : Int) - 1 = m := ⟨M - 1, by omega⟩
        have uM : IntKind.u64.wrap (M1 : Int) = M1 := by rw [IntKind.wrap_u64]; omega
        have eAnd : bits .and .u64 (R' : Int) (M1 : Int) = (O : Int) := by rw [bits_and_u64_nat _ _ lR' (by omega), hO, show M - 1 = M1 from by omega]
        have uO := wrap_i (n := O) (by omega)
        clear hRr hR' hO
        obtain ⟨G, hG⟩ : ∃ G : Nat → Int, ∀ x, G x = dk[x]! := ⟨fun x => dk[x]!, fun _ => rfl⟩
        have HG : Hid (∀ x, G x = dk[x]!) := hG
        clear hG
        by_cases hlO : l ≤ O
        · obtain ⟨o1, eo1⟩ : ∃ m : Nat, (O : Int) - l = m := ⟨O - l, by omega⟩
          have uo1 := wrap_i (n := o1) (by omega)
          have hlO2 : (l : Int) ≤ O := by omega
          go_wp2_with fail
          refine hnext.mono ?_
          rintro e w3 ⟨rfl, hroll⟩
          have HB2 : Hid (Brk w g o N dk w.heap.size R' w3) := HB.out.rolled hroll
          have hc3 : ∀ x, x < n → w3.cell? ⟨g, o + x, none⟩ = some (.int .u64 (G x)) := fun x hx => by rw [HG.out]; exact HB2.out.row.cell x (by omega)
          have hf3 : ∀ x, x < n → w3.frozen? ⟨g, o + x, none⟩ = false := fun x hx => HB2.out.row.free x (by omega)
          clear hroll hnext
          obtain ⟨po, epo⟩ : ∃ m : Nat, (a : Int) + o1 = m := ⟨a + (O - l), by omega⟩
          have upo := wrap_i (n := po) (by omega)
          have npo : po < n := by omega
          by_cases hsame : it = po
          · subst hsame
            go_wp2_with fail
            go_region
            all_goals go_wp2
            go_roundw
            case rel =>
              refine ⟨t + 1, xorNext r, swp dk it it, by have := HIT.out; congr 1; omega, by omega, by rw [size_swp]; exact hsk, ?_, ?_⟩
              · simp only [HG.out]
                exact HB2.out.swapped (i := it) (j := it) (by rw [hsk]; exact nit) (by rw [hsk]; exact nit) HN.out
              · rw [← HR.out, roll_on a l M i0 t r dk (O - l) (by omega) (by rw [← HN.out, ← HO.out]; rw [if_pos (by omega)]), show i0 + t = it from HIT.out.symm, show a + (O - l) = it from by omega]
            case measure => have := HIT.out; simp [intV]; omega
          · have hs2 : ¬ po = it := fun e => hsame e.symm
            go_wp2_with fail
            go_region
            all_goals go_wp2
            go_roundw
            case rel =>
              refine ⟨t + 1, xorNext r, swp dk it po, by have := HIT.out; congr 1; omega, by omega, by rw [size_swp]; exact hsk, ?_, ?_⟩
              · simp only [HG.out]
                exact HB2.out.swapped (i := it) (j := po) (by rw [hsk]; exact nit) (by rw [hsk]; exact npo) HN.out
              · rw [← HR.out, roll_on a l M i0 t r dk (O - l) (by omega) (by rw [← HN.out, ← HO.out]; rw [if_pos (by omega)]), show i0 + t = it from HIT.out.symm, show a + (O - l) = po from by omega]
            case measure => have := HIT.out; simp [intV]; omega
        · have hlO2 : ¬ (l : Int) ≤ O := by omega
          go_wp2_with fail
          refine hnext.mono ?_
          rintro e w3 ⟨rfl, hroll⟩
          have HB2 : Hid (Brk w g o N dk w.heap.size R' w3) := HB.out.rolled hroll
          have hc3 : ∀ x, x < n → w3.cell? ⟨g, o + x, none⟩ = some (.int .u64 (G x)) := fun x hx => by rw [HG.out]; exact HB2.out.row.cell x (by omega)
          have hf3 : ∀ x, x < n → w3.frozen? ⟨g, o + x, none⟩ = false := fun x hx => HB2.out.row.free x (by omega)
          clear hroll hnext
          obtain ⟨po, epo⟩ : ∃ m : Nat, (a : Int) + O = m := ⟨a + O, by omega⟩
          have upo := wrap_i (n := po) (by omega)
          have npo : po < n := by omega
          by_cases hsame : it = po
          · subst hsame
            go_wp2_with fail
            go_region
            all_goals go_wp2
            go_roundw
            case rel =>
              refine ⟨t + 1, xorNext r, swp dk it it, by have := HIT.out; congr 1; omega, by omega, by rw [size_swp]; exact hsk, ?_, ?_⟩
              · simp only [HG.out]
                exact HB2.out.swapped (i := it) (j := it) (by rw [hsk]; exact nit) (by rw [hsk]; exact nit) HN.out
              · rw [← HR.out, roll_on a l M i0 t r dk O (by omega) (by rw [← HN.out, ← HO.out]; rw [if_neg (by omega)]), show i0 + t = it from HIT.out.symm, show a + O = it from by omega]
            case measure => have := HIT.out; simp [intV]; omega
          · have hs2 : ¬ po = it := fun e => hsame e.symm
            go_wp2_with fail
            go_region
            all_goals go_wp2
            go_roundw
            case rel =>
              refine ⟨t + 1, xorNext r, swp dk it po, by have := HIT.out; congr 1; omega, by omega, by rw [size_swp]; exact hsk, ?_, ?_⟩
              · simp only [HG.out]
                exact HB2.out.swapped (i := it) (j := po) (by rw [hsk]; exact nit) (by rw [hsk]; exact npo) HN.out
              · rw [← HR.out, roll_on a l M i0 t r dk O (by omega) (by rw [← HN.out, ← HO.out]; rw [if_neg (by omega)]), show i0 + t = it from HIT.out.symm, show a + O = po from by omega]
            case measure => have := HIT.out; simp [intV]; omega
      · have ht4 : t = 3 := by omega
        subst ht4
        have hle : ¬ (it : Int) ≤ k0 := by omega
        clear eit
        go_wp2_with fail
        go_end0
        refine ⟨rfl, ?_, HB.out.by_⟩
        rw [HE.out, ← HR.out]
        exact HB.out.row

end Go.Proofs.YtmfdhcnnhlchbaaGreat
