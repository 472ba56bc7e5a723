import Derived.Test.YtmfdhcnnhlchbaaC20
import Derived.Test.YtmfdhcnnhlchbaaC30
namespace Go.Proofs.Ytmfdhcnnhlchbaa
open Go.RowKit

abbrev chOf (m : Mod) (c : Nat) : Ch := if c = 0 then m.c0 else m.c1

/-- A step was taken: what the ledgers come to. -/
inductive Took (c : Nat) (k n : Int) (p : Pk) (seq : Int) (m : Mod) (L0 L1 : Lg) : Lg → Lg → Prop
  | send (hk : k = 1) (hs : seq = (lgOf L0 L1 c).sent.length + 1) : Took c k n p seq m L0 L1 (put0 c L0 ((lgOf L0 L1 c).sends p)) (put1 c L1 ((lgOf L0 L1 c).sends p))
  | other (h1 : ¬ k = 1) (h4 : ¬ k = 4) (h5 : ¬ k = 5) (h6 : ¬ k = 6) (h7 : ¬ k = 7) : Took c k n p seq m L0 L1 L0 L1
  | recv (o i : Nat) (q : Pk) (hk : k = 4) (ho : o + c = 1) (hn : n = (i : Int) + 1) (hq : (lgOf L0 L1 o).sent[i]? = some q) (hp : (lgOf L0 L1 o).pend[i]? = some true) (ha : (lgOf L0 L1 o).ans[i]? = some 0) (hb : ∀ j, j + 1 = i → ∃ v, (lgOf L0 L1 o).ans[j]? = some v ∧ v ≠ 0) :
      Took c k n p seq m L0 L1 (put0 o L0 ((lgOf L0 L1 o).answered i (if goodTo q then 1 else 2))) (put1 o L1 ((lgOf L0 L1 o).answered i (if goodTo q then 1 else 2)))
  | ack (i : Nat) (v : Int) (hk : k = 5) (hn : n = (i : Int) + 1) (hp : (lgOf L0 L1 c).pend[i]? = some true) (ha : (lgOf L0 L1 c).ans[i]? = some v) (hv : ¬ v = 0) (hb : ∀ j, j < i → (lgOf L0 L1 c).pend[j]? = some false) :
      Took c k n p seq m L0 L1 (put0 c L0 ((lgOf L0 L1 c).done i)) (put1 c L1 ((lgOf L0 L1 c).done i))
  | back (i : Nat) (hk : k = 6 ∨ k = 7) (hn : n = (i : Int) + 1) (hp : (lgOf L0 L1 c).pend[i]? = some true) (ha : (lgOf L0 L1 c).ans[i]? = some 0) (ho : (chOf m c).hd.isOpen = false) :
      Took c k n p seq m L0 L1 (put0 c L0 ((lgOf L0 L1 c).done i)) (put1 c L1 ((lgOf L0 L1 c).done i))

section
variable {m : Mod} {L0 L1 : Lg} {N c : Nat} {k n : Int} {p : Pk}

theorem doM_err (hc : c < 2) (h : (doM m c k n p).2.2 ≠ 0) : (doM m c k n p).1 = m ∧ (doM m c k n p).2.1 = 0 := by
  rcases (show c = 0 ∨ c = 1 by omega) with rfl | rfl
  · simp only [doM, if_true] at h ⊢
    obtain ⟨e1, e2⟩ := doC_err h
    refine ⟨?_, e2⟩
    rw [e1, if_neg h]
  · simp only [doM, Nat.one_ne_zero, if_false] at h ⊢
    obtain ⟨e1, e2⟩ := doC_err h
    refine ⟨?_, e2⟩
    rw [e1, if_neg h]

/-- Either chain, by its own eyes. -/
theorem took_side {S O : Ch} {Ls Lo : Lg} (h : Two S O Ls Lo N) (hN : N < 100000) (hn : 0 ≤ n) (hok : (doC S k n p (knownHd S O) O.heads.length).2.2 = 0) :
    (k = 1 ∧ (doC S k n p (knownHd S O) O.heads.length).2.1 = (Ls.sent.length : Int) + 1 ∧ Two (doC S k n p (knownHd S O) O.heads.length).1 O (Ls.sends p) Lo (N + 1)) ∨
    ((¬ k = 1 ∧ ¬ k = 4 ∧ ¬ k = 5 ∧ ¬ k = 6 ∧ ¬ k = 7) ∧ Two (doC S k n p (knownHd S O) O.heads.length).1 O Ls Lo (N + 1)) ∨
    (k = 4 ∧ ∃ (i : Nat) (q : Pk), n = (i : Int) + 1 ∧ Lo.sent[i]? = some q ∧ Lo.pend[i]? = some true ∧ Lo.ans[i]? = some 0 ∧ (∀ j, j + 1 = i → ∃ v, Lo.ans[j]? = some v ∧ v ≠ 0) ∧ Two (doC S k n p (knownHd S O) O.heads.length).1 O Ls (Lo.answered i (if goodTo q then 1 else 2)) (N + 1)) ∨
    (k = 5 ∧ ∃ (i : Nat) (v : Int), n = (i : Int) + 1 ∧ Ls.pend[i]? = some true ∧ Ls.ans[i]? = some v ∧ (¬ v = 0) ∧ (∀ j, j < i → Ls.pend[j]? = some false) ∧ Two (doC S k n p (knownHd S O) O.heads.length).1 O (Ls.done i) Lo (N + 1)) ∨
    ((k = 6 ∨ k = 7) ∧ ∃ i : Nat, n = (i : Int) + 1 ∧ Ls.pend[i]? = some true ∧ Ls.ans[i]? = some 0 ∧ (doC S k n p (knownHd S O) O.heads.length).1.hd.isOpen = false ∧ Two (doC S k n p (knownHd S O) O.heads.length).1 O (Ls.done i) Lo (N + 1)) := by
  unfold doC at *
  by_cases h1 : k = 1
  · rw [if_pos h1] at hok ⊢
    obtain ⟨e1, e2⟩ := two_send h (by omega) hok
    exact .inl ⟨h1, e1, e2⟩
  rw [if_neg h1] at hok ⊢
  by_cases h2 : k = 2
  · rw [if_pos h2] at hok ⊢
    exact .inr (.inl ⟨by omega, (two_tick h (by omega) hn hok).2⟩)
  rw [if_neg h2] at hok ⊢
  by_cases h3 : k = 3
  · rw [if_pos h3] at hok ⊢
    exact .inr (.inl ⟨by omega, (two_update h hn hok).2⟩)
  rw [if_neg h3] at hok ⊢
  by_cases h4 : k = 4
  · rw [if_pos h4] at hok ⊢
    obtain ⟨i, q, e1, e2, e3, e4, e5, _, e6⟩ := two_recv h (by omega) hok
    exact .inr (.inr (.inl ⟨h4, i, q, e1, e2, e3, e4, e5, e6⟩))
  rw [if_neg h4] at hok ⊢
  by_cases h5 : k = 5
  · rw [if_pos h5] at hok ⊢
    obtain ⟨i, q, v, e1, e2, e3, e4, e5, e6, _, e7⟩ := two_ack h hok
    exact .inr (.inr (.inr (.inl ⟨h5, i, v, e1, e3, e4, e5, e6, e7⟩)))
  rw [if_neg h5] at hok ⊢
  by_cases h6 : k = 6
  · rw [if_pos h6] at hok ⊢
    obtain ⟨i, q, e1, e2, e3, e4, _, e5, e6⟩ := two_back h hok
    exact .inr (.inr (.inr (.inr ⟨.inl h6, i, e1, e3, e4, e5, e6⟩)))
  rw [if_neg h6] at hok ⊢
  by_cases h7 : k = 7
  · rw [if_pos h7] at hok ⊢
    obtain ⟨i, q, e1, e2, e3, e4, _, e5, e6⟩ := two_back h hok
    exact .inr (.inr (.inr (.inr ⟨.inr h7, i, e1, e3, e4, e5, e6⟩)))
  rw [if_neg h7] at hok ⊢
  by_cases h8 : k = 8
  · rw [if_pos h8] at hok ⊢
    exact .inr (.inl ⟨by omega, (two_close h hok).2⟩)
  rw [if_neg h8] at hok ⊢
  by_cases h9 : k = 9
  · rw [if_pos h9] at hok ⊢
    exact .inr (.inl ⟨by omega, (two_confirm h hok).2⟩)
  rw [if_neg h9] at hok ⊢
  cases hok

theorem doM_took (h : Two m.c0 m.c1 L0 L1 N) (hc : c < 2) (hN : N < 100000) (hn : 0 ≤ n) (hok : (doM m c k n p).2.2 = 0) :
    ∃ L0' L1', Took c k n p (doM m c k n p).2.1 (doM m c k n p).1 L0 L1 L0' L1' ∧ Two (doM m c k n p).1.c0 (doM m c k n p).1.c1 L0' L1' (N + 1) := by
  rcases (show c = 0 ∨ c = 1 by omega) with rfl | rfl
  · simp only [doM, if_true] at hok ⊢
    rcases took_side h hN hn hok with ⟨e1, e2, e3⟩ | ⟨⟨e1, e4, e5, e6, e7⟩, e8⟩ | ⟨e1, i, q, e2, e3, e4, e5, e6, e7⟩ | ⟨e1, i, v, e2, e3, e4, e5, e6, e7⟩ | ⟨e1, i, e2, e3, e4, e5, e6⟩
    · exact ⟨_, _, .send e1 e2, e3⟩
    · exact ⟨_, _, .other e1 e4 e5 e6 e7, e8⟩
    · exact ⟨_, _, .recv 1 i q e1 rfl e2 e3 e4 e5 e6, e7⟩
    · exact ⟨_, _, .ack i v e1 e2 e3 e4 e5 e6, e7⟩
    · exact ⟨_, _, .back i e1 e2 e3 e4 e5, e6⟩
  · simp only [doM, Nat.one_ne_zero, if_false] at hok ⊢
    rcases took_side h.flip hN hn hok with ⟨e1, e2, e3⟩ | ⟨⟨e1, e4, e5, e6, e7⟩, e8⟩ | ⟨e1, i, q, e2, e3, e4, e5, e6, e7⟩ | ⟨e1, i, v, e2, e3, e4, e5, e6, e7⟩ | ⟨e1, i, e2, e3, e4, e5, e6⟩
    · exact ⟨_, _, .send e1 e2, e3.flip⟩
    · exact ⟨_, _, .other e1 e4 e5 e6 e7, e8.flip⟩
    · exact ⟨_, _, .recv 0 i q e1 rfl e2 e3 e4 e5 e6, e7.flip⟩
    · exact ⟨_, _, .ack i v e1 e2 e3 e4 e5 e6, e7.flip⟩
    · exact ⟨_, _, .back i e1 e2 e3 e4 e5, e6.flip⟩

end

end Go.Proofs.Ytmfdhcnnhlchbaa

namespace Go.Proofs.Ytmfdhcnnhlchbaa
open Go.RowKit Go.Maps

section
variable {lab : Nat → Nat} {w : World} {y x : Nat} {m : Mod} {L0 L1 : Lg} {r0 r1 : LgAt} {B c i : Nat} {k n : Int}

/-- The bridge's step, seen from the law's world. -/
def DoTo (lab : Nat → Nat) (w : World) (y x : Nat) (m : Mod) (L0 L1 : Lg) (r0 r1 : LgAt) (B : Nat) (w' : World) : Prop := ∃ lab', Wm lab' w' y x m L0 L1 r0 r1 B ∧ StepB x lab lab' w w'

theorem do_at (h : Wm lab w y x m L0 L1 r0 r1 B) (hc : c < 2) (hB : B ≤ 8000000) (ht : 0 ≤ m.taken ∧ m.taken ≤ 9000000) (hn : 0 ≤ n ∧ n < 18446744073709551616) (p : Pk) :
    Calls Try.prog 10 #[.pointer (some ⟨x, 0, none⟩), .int .i64 c, stepAgg k n p] w fun e w' => e = .returned (.tuple #[.int .u64 (doM m c k n p).2.1, .int .i64 (doM m c k n p).2.2]) ∧ DoTo lab w y x (doM m c k n p).1 L0 L1 r0 r1 (B + 4) w' := by
  obtain ⟨a0, a1, K0, K1, hb⟩ := h.br
  rcases (show c = 0 ∨ c = 1 by omega) with rfl | rfl
  · exact (do0 hb hB ht hn).mono fun e w' ⟨he, t⟩ => ⟨he, h.stepped t⟩
  · exact (do1 hb hB ht hn).mono fun e w' ⟨he, t⟩ => ⟨he, h.stepped t⟩

/-- What Look says of chain c. -/
def Looked (S : Ch) (w : World) (e : Ending) (w' : World) : Prop :=
  ∃ kh al cl, e = .returned (.tuple #[.agg #[.int .u64 S.hd.height, .int .u64 S.hd.time, .int .u64 kh, .bool S.hd.isOpen, .int .u64 S.nextSend, .int .u64 S.hd.nextRecv, .slice al S.hd.packets.length cl, .int .u64 S.locked, .int .u64 S.about], .int .i64 0]) ∧ w.grownBy w' none

theorem look_at (h : Wm lab w y x m L0 L1 r0 r1 B) (hc : c < 2) (hB : B ≤ 8000000) :
    Calls Try.prog 13 #[.pointer (some ⟨x, 0, none⟩), .int .i64 c] w fun e w' => Looked (chOf m c) w e w' := by
  obtain ⟨a0, a1, K0, K1, hb⟩ := h.br
  rcases (show c = 0 ∨ c = 1 by omega) with rfl | rfl
  · exact (look0_any hb (by omega)).mono fun e w' ⟨al, cl, he, _, _, _, g⟩ => ⟨_, al, cl, he, g⟩
  · exact (look1_any hb (by omega)).mono fun e w' ⟨al, cl, he, _, _, _, g⟩ => ⟨_, al, cl, he, g⟩

end

end Go.Proofs.Ytmfdhcnnhlchbaa
