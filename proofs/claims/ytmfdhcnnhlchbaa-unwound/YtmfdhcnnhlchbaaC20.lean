import Derived.Test.YtmfdhcnnhlchbaaC19
import Derived.Test.YtmfdhcnnhlchbaaC17
import Derived.Test.YtmfdhcnnhlchbaaC02
import Derived.Sort.AssemblyPlain
import Derived.WalkKit
import Derived.BigGuard
import Derived.BigCall
import Derived.CellFam
import Derived.Deep.Draws
import Derived.Deep.QuietTactic
import Derived.BigQuiet
namespace Go.Proofs.Ytmfdhcnnhlchbaa
open Go.RowKit

/-- Ranges of a chain behind N steps. -/
structure Rng (S : Ch) (L : Lg) (N : Nat) : Prop where
  t0 : 0 ≤ S.hd.time
  t1 : S.hd.time < 18446744073709551616
  h0 : 0 ≤ S.hd.height
  h1 : S.hd.height ≤ N
  s : L.sent.length ≤ N
  a : S.hd.answers.length ≤ N

/-- Both ways: S with its ledger Ls, O with its ledger Lo. -/
structure Two (S O : Ch) (Ls Lo : Lg) (N : Nat) : Prop where
  out : Side S O Ls
  back : Side O S Lo
  rs : Rng S Ls N
  ro : Rng O Lo N

section
variable {S O : Ch} {Ls Lo : Lg} {N : Nat} {n : Int} {p : Pk}

theorem Two.flip (h : Two S O Ls Lo N) : Two O S Lo Ls N := ⟨h.back, h.out, h.ro, h.rs⟩

theorem Rng.mono {L : Lg} {M : Nat} (h : Rng S L N) (e : N ≤ M) : Rng S L M := ⟨h.t0, h.t1, h.h0, by have := h.h1; omega, by have := h.s; omega, by have := h.a; omega⟩

theorem Two.mono {M : Nat} (h : Two S O Ls Lo N) (e : N ≤ M) : Two S O Ls Lo M := ⟨h.out, h.back, h.rs.mono e, h.ro.mono e⟩

theorem two_new (coins : Int) : Two (newCh 0 coins) (newCh 1 coins) { sent := [], ans := [], pend := [] } { sent := [], ans := [], pend := [] } 0 :=
  ⟨side_new coins 0 1, side_new coins 1 0, ⟨by simp [newCh, rawCh, newHd], by simp [newCh, rawCh, newHd], by simp [newCh, rawCh, newHd], by simp [newCh, rawCh, newHd], by simp, by simp [newCh, rawCh, newHd]⟩, ⟨by simp [newCh, rawCh, newHd], by simp [newCh, rawCh, newHd], by simp [newCh, rawCh, newHd], by simp [newCh, rawCh, newHd], by simp, by simp [newCh, rawCh, newHd]⟩⟩

theorem send_err (h : (sendC S p).2.2 ≠ 0) : (sendC S p).1 = S ∧ (sendC S p).2.1 = 0 := by
  unfold sendC at *
  repeat' split
  all_goals first | exact ⟨rfl, rfl⟩ | skip
  rename_i h1 h2 h3 h4 h5 h6
  rw [if_neg h1, if_neg h2, if_neg h3, if_neg h4, if_neg h5, if_neg h6] at h
  exact absurd rfl h

theorem tick_err (h : (tickC S n).2.2 ≠ 0) : (tickC S n).1 = S ∧ (tickC S n).2.1 = 0 := by
  unfold tickC at *
  split
  · exact ⟨rfl, rfl⟩
  · rename_i h1
    rw [if_neg h1] at h
    exact absurd rfl h

theorem update_err {hl : Nat} (h : (updateC S n hl).2.2 ≠ 0) : (updateC S n hl).1 = S ∧ (updateC S n hl).2.1 = 0 := by
  unfold updateC at *
  split
  · exact ⟨rfl, rfl⟩
  · rename_i h1
    rw [if_neg h1] at h
    exact absurd rfl h

theorem recv_err {K : Hd} (h : (recvC S n K).2.2 ≠ 0) : (recvC S n K).1 = S ∧ (recvC S n K).2.1 = 0 := by
  unfold recvC at *
  by_cases h1 : S.hd.isOpen = false
  · rw [if_pos h1]; exact ⟨rfl, rfl⟩
  rw [if_neg h1] at h ⊢
  by_cases h2 : n ≠ S.hd.nextRecv
  · rw [if_pos h2]; exact ⟨rfl, rfl⟩
  rw [if_neg h2] at h ⊢
  cases hf : K.packets.find? (fun p => p.seq == n) with
  | none => exact ⟨rfl, rfl⟩
  | some p =>
    rw [hf] at h
    simp only at h ⊢
    by_cases h3 : dueB p S.hd.height S.hd.time = true
    · rw [if_pos h3]; exact ⟨rfl, rfl⟩
    · rw [if_neg h3] at h; exact absurd rfl h

theorem ack_err {K : Hd} (h : (ackC S n K).2.2 ≠ 0) : (ackC S n K).1 = S ∧ (ackC S n K).2.1 = 0 := by
  unfold ackC at *
  cases hf : S.hd.packets.find? (fun p => p.seq == n) with
  | none => exact ⟨rfl, rfl⟩
  | some p =>
    rw [hf] at h
    simp only at h ⊢
    by_cases h1 : (S.hd.packets.head?.map (fun q => q.seq == n)) = some false
    · rw [if_pos h1]; exact ⟨rfl, rfl⟩
    rw [if_neg h1] at h ⊢
    cases ha : K.answers.find? (fun a => a.1 == n) with
    | none => exact ⟨rfl, rfl⟩
    | some a => rw [ha] at h; exact absurd rfl h

theorem back_err {K : Hd} {cl : Bool} (h : (backC S n K cl).2.2 ≠ 0) : (backC S n K cl).1 = S ∧ (backC S n K cl).2.1 = 0 := by
  unfold backC at *
  cases hf : S.hd.packets.find? (fun p => p.seq == n) with
  | none => exact ⟨rfl, rfl⟩
  | some p =>
    rw [hf] at h
    simp only at h ⊢
    by_cases h1 : (cl && K.isOpen) = true
    · rw [if_pos h1]; exact ⟨rfl, rfl⟩
    rw [if_neg h1] at h ⊢
    by_cases h2 : ((!cl && !dueB p K.height K.time) || decide (n < K.nextRecv)) = true
    · rw [if_pos h2]; exact ⟨rfl, rfl⟩
    · rw [if_neg h2] at h; exact absurd rfl h

theorem close_err (h : (closeC S).2.2 ≠ 0) : (closeC S).1 = S ∧ (closeC S).2.1 = 0 := by
  unfold closeC at *
  split
  · exact ⟨rfl, rfl⟩
  · rename_i h1
    rw [if_neg h1] at h
    exact absurd rfl h

theorem confirm_err {K : Hd} (h : (confirmC S K).2.2 ≠ 0) : (confirmC S K).1 = S ∧ (confirmC S K).2.1 = 0 := by
  unfold confirmC at *
  by_cases h1 : S.hd.isOpen = false
  · rw [if_pos h1]; exact ⟨rfl, rfl⟩
  rw [if_neg h1] at h ⊢
  by_cases h2 : K.isOpen = true
  · rw [if_pos h2]; exact ⟨rfl, rfl⟩
  · rw [if_neg h2] at h; exact absurd rfl h

/-- A step that is refused changes nothing, and gives no number. -/
theorem doC_err {k : Int} {K : Hd} {hl : Nat} (h : (doC S k n p K hl).2.2 ≠ 0) : (doC S k n p K hl).1 = S ∧ (doC S k n p K hl).2.1 = 0 := by
  unfold doC at *
  by_cases h1 : k = 1
  · rw [if_pos h1] at h ⊢; exact send_err h
  rw [if_neg h1] at h ⊢
  by_cases h2 : k = 2
  · rw [if_pos h2] at h ⊢; exact tick_err h
  rw [if_neg h2] at h ⊢
  by_cases h3 : k = 3
  · rw [if_pos h3] at h ⊢; exact update_err h
  rw [if_neg h3] at h ⊢
  by_cases h4 : k = 4
  · rw [if_pos h4] at h ⊢; exact recv_err h
  rw [if_neg h4] at h ⊢
  by_cases h5 : k = 5
  · rw [if_pos h5] at h ⊢; exact ack_err h
  rw [if_neg h5] at h ⊢
  by_cases h6 : k = 6
  · rw [if_pos h6] at h ⊢; exact back_err h
  rw [if_neg h6] at h ⊢
  by_cases h7 : k = 7
  · rw [if_pos h7] at h ⊢; exact back_err h
  rw [if_neg h7] at h ⊢
  by_cases h8 : k = 8
  · rw [if_pos h8] at h ⊢; exact close_err h
  rw [if_neg h8] at h ⊢
  by_cases h9 : k = 9
  · rw [if_pos h9] at h ⊢; exact confirm_err h
  rw [if_neg h9]
  exact ⟨rfl, rfl⟩

theorem send_form (h : (sendC S p).2.2 = 0) : sendC S p = (S.sent p, S.nextSend, 0) := by
  unfold sendC at *
  repeat' split
  all_goals first | rfl | skip
  all_goals (exfalso; simp_all)

theorem two_send (h : Two S O Ls Lo N) (hN : N < 1000000) (hok : (sendC S p).2.2 = 0) : (sendC S p).2.1 = (Ls.sent.length : Int) + 1 ∧ Two (sendC S p).1 O (Ls.sends p) Lo (N + 1) := by
  rw [send_form hok]
  have hw : IntKind.u64.wrap (S.nextSend + 1) = S.nextSend + 1 := by rw [IntKind.wrap_u64]; have := h.out.next; have := h.rs.s; omega
  refine ⟨h.out.next, ?_, ?_, ?_, h.ro.mono (by omega)⟩
  · refine h.out.send ?_ ?_ ?_ ?_
    · simp [Ch.sent, Ch.counted, Ch.moved, Ch.spent, Ch.put, hw]
    · simp [Ch.sent, numbered, h.out.next]
    · simp [Ch.sent, Ch.counted, Ch.moved, Ch.spent, Ch.put]
    · simp [Ch.sent, Ch.counted, Ch.moved, Ch.spent, Ch.put]
  · refine h.back.receiver ?_ ?_ ?_ ?_ ?_ (.inl ?_) <;> simp [Ch.sent, Ch.counted, Ch.moved, Ch.spent, Ch.put]
  · obtain ⟨a, b, c, d, e, f⟩ := h.rs
    exact ⟨by simpa [Ch.sent] using a, by simpa [Ch.sent] using b, by simpa [Ch.sent] using c, by simp [Ch.sent]; omega, by simp [Lg.sends]; omega, by simp [Ch.sent]; omega⟩

theorem two_tick (h : Two S O Ls Lo N) (hN : N < 1000000) (hn : 0 ≤ n) (hok : (tickC S n).2.2 = 0) : (tickC S n).2.1 = 0 ∧ Two (tickC S n).1 O Ls Lo (N + 1) := by
  obtain ⟨a, b, c, d, e, f⟩ := h.rs
  unfold tickC at *
  by_cases h1 : IntKind.u64.wrap (18446744073709551615 - S.hd.time) < n
  · rw [if_pos h1] at hok; cases hok
  rw [if_neg h1]
  have hw0 : IntKind.u64.wrap (18446744073709551615 - S.hd.time) = 18446744073709551615 - S.hd.time := by rw [IntKind.wrap_u64]; omega
  rw [hw0] at h1
  have hw1 : IntKind.u64.wrap (S.hd.time + n) = S.hd.time + n := by rw [IntKind.wrap_u64]; omega
  have hw2 : IntKind.u64.wrap (S.hd.height + 1) = S.hd.height + 1 := by rw [IntKind.wrap_u64]; omega
  refine ⟨rfl, ?_, ?_, ?_, h.ro.mono (by omega)⟩
  · exact h.out.senderTick (H := (S.later n).hd) rfl rfl rfl rfl rfl
  · exact h.back.receiverTick rfl rfl rfl (by simp [Ch.later, hw2]; omega) (by simp [Ch.later, hw1]; omega) rfl
  · exact ⟨by simp [Ch.later, hw1]; omega, by simp [Ch.later, hw1]; omega, by simp [Ch.later, hw2]; omega, by simp [Ch.later, hw2]; omega, by omega, by simp [Ch.later]; omega⟩

theorem two_update (h : Two S O Ls Lo N) (hn : 0 ≤ n) (hok : (updateC S n O.heads.length).2.2 = 0) : (updateC S n O.heads.length).2.1 = 0 ∧ Two (updateC S n O.heads.length).1 O Ls Lo (N + 1) := by
  obtain ⟨a, b, c, d, e, f⟩ := h.rs
  unfold updateC at *
  by_cases h1 : (O.heads.length : Int) ≤ n ∨ n ≤ S.known
  · rw [if_pos h1] at hok; cases hok
  rw [if_neg h1]
  refine ⟨rfl, h.out.sender rfl rfl rfl (by simp; omega), h.back.receiver rfl rfl rfl rfl rfl (.inl rfl), ⟨a, b, c, by simp; omega, by omega, by simp; omega⟩, h.ro.mono (by omega)⟩

theorem two_shut (h : Two S O Ls Lo N) : Two { S with hd := { S.hd with isOpen := false } } O Ls Lo (N + 1) := by
  obtain ⟨a, b, c, d, e, f⟩ := h.rs
  exact ⟨h.out.sender rfl rfl rfl h.out.kn, h.back.receiver rfl rfl rfl rfl rfl (.inr rfl), ⟨a, b, c, by simp; omega, by omega, by simp; omega⟩, h.ro.mono (by omega)⟩

theorem two_close (h : Two S O Ls Lo N) (hok : (closeC S).2.2 = 0) : (closeC S).2.1 = 0 ∧ Two (closeC S).1 O Ls Lo (N + 1) := by
  unfold closeC at *
  split
  · rename_i h1; rw [if_pos h1] at hok; cases hok
  · exact ⟨rfl, two_shut h⟩

theorem two_confirm {K : Hd} (h : Two S O Ls Lo N) (hok : (confirmC S K).2.2 = 0) : (confirmC S K).2.1 = 0 ∧ Two (confirmC S K).1 O Ls Lo (N + 1) := by
  unfold confirmC at *
  by_cases h1 : S.hd.isOpen = false
  · rw [if_pos h1] at hok; cases hok
  rw [if_neg h1] at hok ⊢
  by_cases h2 : K.isOpen = true
  · rw [if_pos h2] at hok; cases hok
  · rw [if_neg h2]; exact ⟨rfl, two_shut h⟩

end

end Go.Proofs.Ytmfdhcnnhlchbaa

namespace Go.Proofs.Ytmfdhcnnhlchbaa
open Go.RowKit

section
variable {S O : Ch} {Ls Lo : Lg} {N : Nat} {n : Int} {p : Pk}

theorem recv_keeps {K : Hd} : (recvC S n K).1.nextSend = S.nextSend ∧ (recvC S n K).1.hd.packets = S.hd.packets ∧ (recvC S n K).1.heads = S.heads ∧ (recvC S n K).1.known = S.known ∧ (recvC S n K).1.hd.height = S.hd.height ∧ (recvC S n K).1.hd.time = S.hd.time ∧ (recvC S n K).1.hd.answers.length ≤ S.hd.answers.length + 1 := by
  unfold recvC
  by_cases h1 : S.hd.isOpen = false
  · rw [if_pos h1]; simp
  rw [if_neg h1]
  by_cases h2 : n ≠ S.hd.nextRecv
  · rw [if_pos h2]; simp
  rw [if_neg h2]
  cases hf : K.packets.find? (fun p => p.seq == n) with
  | none => simp
  | some p =>
    simp only
    by_cases h3 : dueB p S.hd.height S.hd.time = true
    · rw [if_pos h3]; simp
    · rw [if_neg h3]
      by_cases h4 : goodTo p = true <;> simp [h4, Ch.credit, Ch.put]

theorem ack_keeps {K : Hd} : (ackC S n K).1.hd.nextRecv = S.hd.nextRecv ∧ (ackC S n K).1.hd.answers = S.hd.answers ∧ (ackC S n K).1.heads = S.heads ∧ (ackC S n K).1.hd.height = S.hd.height ∧ (ackC S n K).1.hd.time = S.hd.time ∧ (ackC S n K).1.hd.isOpen = S.hd.isOpen := by
  unfold ackC
  cases hf : S.hd.packets.find? (fun p => p.seq == n) with
  | none => simp
  | some p =>
    simp only
    by_cases h1 : (S.hd.packets.head?.map (fun q => q.seq == n)) = some false
    · rw [if_pos h1]; simp
    rw [if_neg h1]
    cases ha : K.answers.find? (fun a => a.1 == n) with
    | none => simp
    | some a =>
      simp only
      by_cases h4 : a.2 = true <;> simp [h4, Ch.credit, Ch.put, Ch.gone]

theorem back_keeps {K : Hd} {cl : Bool} : (backC S n K cl).1.hd.nextRecv = S.hd.nextRecv ∧ (backC S n K cl).1.hd.answers = S.hd.answers ∧ (backC S n K cl).1.heads = S.heads ∧ (backC S n K cl).1.hd.height = S.hd.height ∧ (backC S n K cl).1.hd.time = S.hd.time ∧ ((backC S n K cl).1.hd.isOpen = S.hd.isOpen ∨ (backC S n K cl).1.hd.isOpen = false) := by
  unfold backC
  cases hf : S.hd.packets.find? (fun p => p.seq == n) with
  | none => simp
  | some p =>
    simp only
    by_cases h1 : (cl && K.isOpen) = true
    · rw [if_pos h1]; simp
    rw [if_neg h1]
    by_cases h2 : ((!cl && !dueB p K.height K.time) || decide (n < K.nextRecv)) = true
    · rw [if_pos h2]; simp
    · rw [if_neg h2]; simp [Ch.credit, Ch.put, Ch.gone]

theorem two_recv (h : Two S O Ls Lo N) (hN : N < 1000000) (hok : (recvC S n (knownHd S O)).2.2 = 0) :
    ∃ (i : Nat) (q : Pk), n = (i : Int) + 1 ∧ Lo.sent[i]? = some q ∧ Lo.pend[i]? = some true ∧ Lo.ans[i]? = some 0 ∧ (∀ j, j + 1 = i → ∃ v, Lo.ans[j]? = some v ∧ v ≠ 0) ∧ (recvC S n (knownHd S O)).2.1 = 0 ∧
      Two (recvC S n (knownHd S O)).1 O Ls (Lo.answered i (if goodTo q then 1 else 2)) (N + 1) := by
  obtain ⟨a, b, c, d, e, f⟩ := h.rs
  obtain ⟨i, q, h1, h2, h3, h4, h5, h6, h7⟩ := recv_ok h.back h.out.kn (by omega) hok
  obtain ⟨k1, k2, k3, k4, k5, k6, k7⟩ := recv_keeps (S := S) (n := n) (K := knownHd S O)
  refine ⟨i, q, h1, h2, h3, h4, h5, h6, h.out.sender k1 k2 k3 (by rw [k4]; exact h.out.kn), h7, ⟨by rw [k6]; exact a, by rw [k6]; exact b, by rw [k5]; exact c, by rw [k5]; simp; omega, by omega, by omega⟩, ?_⟩
  obtain ⟨a', b', c', d', e', f'⟩ := h.ro
  exact ⟨a', b', c', by simp; omega, by simp [Lg.answered]; omega, by omega⟩

theorem two_ack (h : Two S O Ls Lo N) (hok : (ackC S n (knownHd S O)).2.2 = 0) :
    ∃ (i : Nat) (q : Pk) (v : Int), n = (i : Int) + 1 ∧ Ls.sent[i]? = some q ∧ Ls.pend[i]? = some true ∧ Ls.ans[i]? = some v ∧ v ≠ 0 ∧ (∀ j, j < i → Ls.pend[j]? = some false) ∧ (ackC S n (knownHd S O)).2.1 = 0 ∧
      Two (ackC S n (knownHd S O)).1 O (Ls.done i) Lo (N + 1) := by
  obtain ⟨a, b, c, d, e, f⟩ := h.rs
  obtain ⟨i, q, v, h1, h2, h3, h4, h5, h6, h7, h8⟩ := ack_ok h.out hok
  obtain ⟨k1, k2, k3, k4, k5, k6⟩ := ack_keeps (S := S) (n := n) (K := knownHd S O)
  exact ⟨i, q, v, h1, h2, h3, h4, h5, h6, h7, h8, h.back.receiver k1 k2 k3 k4 k5 (.inl k6), ⟨by rw [k5]; exact a, by rw [k5]; exact b, by rw [k4]; exact c, by rw [k4]; simp; omega, by simp [Lg.done]; omega, by rw [k2]; omega⟩, h.ro.mono (by omega)⟩

theorem two_back {cl : Bool} (h : Two S O Ls Lo N) (hok : (backC S n (knownHd S O) cl).2.2 = 0) :
    ∃ (i : Nat) (q : Pk), n = (i : Int) + 1 ∧ Ls.sent[i]? = some q ∧ Ls.pend[i]? = some true ∧ Ls.ans[i]? = some 0 ∧ (backC S n (knownHd S O) cl).2.1 = 0 ∧ (backC S n (knownHd S O) cl).1.hd.isOpen = false ∧
      Two (backC S n (knownHd S O) cl).1 O (Ls.done i) Lo (N + 1) := by
  obtain ⟨a, b, c, d, e, f⟩ := h.rs
  obtain ⟨i, q, h1, h2, h3, h4, h5, h6, h7⟩ := back_ok h.out hok
  obtain ⟨k1, k2, k3, k4, k5, k6⟩ := back_keeps (S := S) (n := n) (K := knownHd S O) (cl := cl)
  exact ⟨i, q, h1, h2, h3, h4, h5, h6, h7, h.back.receiver k1 k2 k3 k4 k5 k6, ⟨by rw [k5]; exact a, by rw [k5]; exact b, by rw [k4]; exact c, by rw [k4]; simp; omega, by simp [Lg.done]; omega, by rw [k2]; omega⟩, h.ro.mono (by omega)⟩

end

end Go.Proofs.Ytmfdhcnnhlchbaa

namespace Go.Proofs.Ytmfdhcnnhlchbaa
open Go.RowKit Go.Maps

def dosC : List Dos := [
  ⟨0, 1, 0, ⟨0, 1, 2, 0, 3, 9, 0⟩, 1, 0⟩,
  ⟨0, 2, 0, pk0, 0, 0⟩,
  ⟨1, 3, 1, pk0, 0, 0⟩,
  ⟨1, 4, 1, pk0, 0, 0⟩]

abbrev endC : Mod := runD (newMod 5) (dosC.take 4)
theorem endC_b0 : balM endC 0 1 0 = 2 := by kernel_rfl
theorem endC_b1 : balM endC 1 2 0 = 3 := by kernel_rfl
theorem dosC_ok : okD (newMod 5) dosC = true := by kernel_rfl

abbrev tWd : TypeId := 39

/-- What is not there yet is labelled 4. -/
def lab4 (lab : Nat → Nat) (n : Nat) : Nat → Nat := fun k => if k < n then lab k else 4

theorem lab4_old {lab : Nat → Nat} {n k : Nat} (h : k < n) : lab4 lab n k = lab k := by simp [lab4, h]
theorem lab4_new {lab : Nat → Nat} {n k : Nat} (h : n ≤ k) : lab4 lab n k = 4 := by simp [lab4]; omega

theorem Br.fresh4 {lab : Nat → Nat} {w w' : World} {x : Nat} {m : Mod} {a0 a1 : DAt} {K0 K1 : Hd} {B : Nat} (h : Br lab w x m a0 a1 K0 K1 B) (g : w.grownBy w' none) : Br (lab4 lab w.heap.size) w' x m a0 a1 K0 K1 B :=
  ⟨h.c0.keep ((g.block x (blk_lt h.c0.blk) (by simp)).trans h.c0.blk) (fun k hk _ => g.block k hk (by simp)) (fun _ hk => lab4_old hk), h.c1.keep ((g.block x (blk_lt h.c1.blk) (by simp)).trans h.c1.blk) (fun k hk _ => g.block k hk (by simp)) (fun _ hk => lab4_old hk), h.k0, h.k1, h.h0, h.h1, by rw [lab4_old (blk_lt h.c0.blk)]; exact h.lx⟩

/-- What begin hands back. -/
def Begun (w : World) (e : Ending) (w' : World) : Prop :=
  ∃ x y lab a0 a1, e = .returned (.tuple #[.pointer (some ⟨y, 0, none⟩), .bool true]) ∧ Br lab w' x (newMod 1000) a0 a1 newHd newHd 6 ∧ (∀ k, k < w.heap.size → lab k = 0) ∧ w.heap.size ≤ y ∧ lab y = 4 ∧ w.grownBy w' none ∧
    w'.heap[y]? = some (.cells #[.pointer (some ⟨x, 0, none⟩), .slice none 0 0, .slice none 0 0, .slice none 0 0, .slice none 0 0, .slice none 0 0, .slice none 0 0] tWd (0, 0))

theorem run_far {z : Nat} {lac lab' : Nat → Nat} {v0 v1 v5 : World} (hcl : ∀ k, k < v0.heap.size → lac k = 0) (g1 : v0.grownBy v1 none) (st : StepB z lac lab' v1 v5) : v0.grownBy v5 none := by
  have s1 := g1.size
  refine ⟨st.os.trans g1.os, st.tape.trans g1.tape, st.output.trans g1.output, by have := st.size; omega, fun k hk _ => ?_⟩
  rw [st.block k (by omega) (hcl k hk), g1.block k hk (by simp)]

set_option maxRecDepth 100000 in
set_option maxHeartbeats 4000000 in
theorem begin_ok {w : World} : Calls Try.prog 7 #[] w (Begun w) := by
  go_enter Try.func7, Try.ntmps7
  go_wp2_with fail
  refine (new_ok (coins := 1000) (by decide) (by decide)).mono ?_
  rintro e v0 ⟨x, lab, a0, a1, rfl, hb, hl, hx, g0⟩
  go_wp2_with fail
  refine (new_ok (coins := 5) (by decide) (by decide)).mono ?_
  rintro e v1 ⟨z, lac, c0, c1, rfl, hc, hcl, hz, g1⟩
  go_wp2_with fail
  have hR0 : RunAt z lac v1 (newMod 5) dosC 0 v1 := ⟨_, c0, c1, _, _, hc, StepB.refl _ _ _, by decide, by decide⟩
  refine (run_step (d := ⟨0, 1, 0, ⟨0, 1, 2, 0, 3, 9, 0⟩, 1, 0⟩) hR0 (by omega) dosC_ok rfl (grown_refl v1 none)).mono ?_
  rintro e v2 ⟨rfl, hR1, _⟩
  go_wp2_with fail
  refine (run_step (d := ⟨0, 2, 0, pk0, 0, 0⟩) hR1 (by omega) dosC_ok rfl (grown_refl v2 none)).mono ?_
  rintro e v3 ⟨rfl, hR2, _⟩
  go_wp2_with fail
  refine (run_step (d := ⟨1, 3, 1, pk0, 0, 0⟩) hR2 (by omega) dosC_ok rfl (grown_refl v3 none)).mono ?_
  rintro e v4 ⟨rfl, hR3, _⟩
  go_wp2_with fail
  refine (run_step (d := ⟨1, 4, 1, pk0, 0, 0⟩) hR3 (by omega) dosC_ok rfl (grown_refl v4 none)).mono ?_
  rintro e v5 ⟨rfl, hR4, _⟩
  obtain ⟨lab', b0, b1, k0, k1, hB, st, t0, t1⟩ := hR4
  have gs : v0.grownBy v5 none := run_far hcl g1 st
  have hB1 := hb.grown gs
  obtain ⟨u, hu⟩ : ∃ u : World, u = v5.alloc (.cells #[.pointer (some ⟨x, 0, none⟩), .slice none 0 0, .slice none 0 0, .slice none 0 0, .slice none 0 0, .slice none 0 0, .slice none 0 0] tWd) := ⟨_, rfl⟩
  have gu : v5.grownBy u none := by rw [hu]; exact World.grownBy_alloc _ _ _
  have hU : u.heap[v5.heap.size]? = some (.cells #[.pointer (some ⟨x, 0, none⟩), .slice none 0 0, .slice none 0 0, .slice none 0 0, .slice none 0 0, .slice none 0 0, .slice none 0 0] tWd (0, 0)) := by rw [hu]; exact heap_alloc_new v5 _
  have hc0 := balance0 (hB.grown gu) (user := 1) (coin := 0) ⟨by decide, by decide⟩ ⟨by decide, by decide⟩
  have hc1 := balance1 (hB.grown gu) (user := 2) (coin := 0) ⟨by decide, by decide⟩ ⟨by decide, by decide⟩
  rw [endC_b0] at hc0
  rw [endC_b1] at hc1
  go_wp2_with fail
  rw [← hu]
  clear hu
  refine hc0.mono ?_
  rintro e u1 ⟨rfl, rfl⟩
  go_wp2_with fail
  refine hc1.mono ?_
  rintro e u2 ⟨rfl, rfl⟩
  go_wp2_with fail
  go_ret2
  refine ⟨x, v5.heap.size, lab4 lab v5.heap.size, a0, a1, rfl, ?_, ?_, ?_, lab4_new (Nat.le_refl _), grown_trans (grown_trans g0 gs (fun k e => by cases e)) gu (fun k e => by cases e), hU⟩
  · have := (hb.grown gs).fresh4 gu
    exact this
  · intro k hk
    rw [lab4_old (by have := g0.size; have := gs.size; omega)]
    exact hl k hk
  · have := g0.size
    have := gs.size
    omega

end Go.Proofs.Ytmfdhcnnhlchbaa

namespace Go.Proofs.Ytmfdhcnnhlchbaa
open Go.RowKit Go.Sort

/-- Block g has N cells of uint64; from cell o on they hold d. -/
def RowAt (w : World) (g o N : Nat) (d : Array Int) : Prop := ∃ cur, w.heap[g]? = some (.cells cur tU64 (0, 0)) ∧ cur.size = N ∧ o + d.size ≤ N ∧ ∀ j, j < d.size → cur[o + j]? = some (.int .u64 d[j]!)

/-- What a sort has left: the row holds d, all else is as it was. -/
structure Sorted (w : World) (g o N : Nat) (d : Array Int) (w' : World) : Prop where
  row : RowAt w' g o N d
  by_ : w.grownBy w' (some g)
  size : w'.heap.size = w.heap.size

theorem RowAt.cell {w : World} {g o N : Nat} {d : Array Int} (h : RowAt w g o N d) : ∀ t, t < d.size → w.cell? ⟨g, o + t, none⟩ = some (.int .u64 d[t]!) := by
  obtain ⟨cur, hb, _, _, hc⟩ := h
  intro t ht
  simp only [World.cell?, hb]
  simpa using hc t ht

theorem RowAt.free {w : World} {g o N : Nat} {d : Array Int} (h : RowAt w g o N d) : ∀ t, t < d.size → w.frozen? ⟨g, o + t, none⟩ = false := by
  obtain ⟨cur, hb, _⟩ := h
  intro t _
  simp [World.frozen?, hb]

theorem RowAt.heap {w w' : World} {g o N : Nat} {d : Array Int} (h : RowAt w g o N d) (e : w'.heap = w.heap) : RowAt w' g o N d := by
  obtain ⟨cur, hb, r⟩ := h
  exact ⟨cur, by rw [e]; exact hb, r⟩

theorem get_swap (d : Array Int) (i j t : Nat) (hi : i < d.size) (hj : j < d.size) : (swp d i j)[t]! = if t = j then d[i]! else if t = i then d[j]! else d[t]! := by
  by_cases h1 : t = j
  · rw [if_pos h1, h1]
    exact swp_right d i j hj
  · rw [if_neg h1]
    by_cases h2 : t = i
    · rw [if_pos h2, h2]
      exact swp_left d i j hi (fun e => h1 (h2.trans e))
    · rw [if_neg h2]
      exact swp_other d i j t h2 h1

/-- Two cells of the row are exchanged. -/
theorem RowAt.swap {w : World} {g o N : Nat} {d : Array Int} (h : RowAt w g o N d) {i j : Nat} (hi : i < d.size) (hj : j < d.size) :
    RowAt ((w.setCell ⟨g, o + i, none⟩ (.int .u64 d[j]!)).setCell ⟨g, o + j, none⟩ (.int .u64 d[i]!)) g o N (swp d i j) := by
  obtain ⟨cur, hb, hs, hl, hc⟩ := h
  refine ⟨(cur.setIfInBounds (o + i) (.int .u64 d[j]!)).setIfInBounds (o + j) (.int .u64 d[i]!), setCell_same (setCell_same hb _ _) _ _, by simpa using hs, by rw [size_swp]; exact hl, fun t ht => ?_⟩
  rw [size_swp] at ht
  rw [get_swap d i j t hi hj]
  rw [Array.getElem?_setIfInBounds, Array.getElem?_setIfInBounds]
  simp only [Array.size_setIfInBounds]
  by_cases h1 : t = j
  · subst h1
    rw [if_pos rfl, if_pos (by omega), if_pos rfl]
  · rw [if_neg (by omega), if_neg h1]
    by_cases h2 : t = i
    · subst h2
      rw [if_pos rfl, if_pos (by omega), if_pos rfl]
    · rw [if_neg (by omega), if_neg h2]
      exact hc t ht

theorem Sorted.start {w : World} {g o N : Nat} {d : Array Int} (h : RowAt w g o N d) : Sorted w g o N d w := ⟨h, grown_refl w _, rfl⟩

theorem Sorted.drewN {w w' : World} {g o N : Nat} {d : Array Int} (h : Sorted w g o N d w') (q : Nat) : Sorted w g o N d (w'.drewN q) := ⟨h.row.heap (drewN_heap _ _), grown_drewN h.by_ q, by rw [drewN_heap]; exact h.size⟩

theorem Sorted.drew {w w' : World} {g o N : Nat} {d : Array Int} (h : Sorted w g o N d w') : Sorted w g o N d w'.drew := ⟨h.row.heap rfl, grown_drew h.by_, h.size⟩

theorem Sorted.swap {w w' : World} {g o N : Nat} {d : Array Int} (h : Sorted w g o N d w') {i j : Nat} (hi : i < d.size) (hj : j < d.size) : Sorted w g o N (swp d i j) ((w'.setCell ⟨g, o + i, none⟩ (.int .u64 d[j]!)).setCell ⟨g, o + j, none⟩ (.int .u64 d[i]!)) :=
  ⟨h.row.swap hi hj, grown_set (grown_set h.by_ _ _ (.inl rfl)) _ _ (.inl rfl), by rw [setCell_size, setCell_size]; exact h.size⟩

theorem Sorted.trans {w w1 w2 : World} {g o N : Nat} {d1 d2 : Array Int} (h1 : Sorted w g o N d1 w1) (h2 : Sorted w1 g o N d2 w2) : Sorted w g o N d2 w2 := ⟨h2.row, grown_trans h1.by_ h2.by_ (fun _ e => .inl e), h2.size.trans h1.size⟩

theorem wrap_i {n : Nat} (h : n < 9000000000000) : IntKind.i64.wrap (n : Int) = n := by simp [IntKind.wrap, IntKind.bits, IntKind.signed]; omega

theorem of_not {b : Bool} (h : (!b) = true) : b = false := by simpa using h
theorem of_nnot {b : Bool} (h : (!b) = false) : b = true := by simpa using h

def intV : Value → Int | .int _ q => q | _ => 0

set_option maxRecDepth 100000 in
theorem isNaN_no (x : Int) (w : World) : Calls Try.prog 77 #[.int .u64 x] w fun e w' => e = .returned (.bool false) ∧ w' = w := by
  go_enter Try.func77, Try.ntmps77
  go_wp2_with fail
  go_ret
  exact ⟨by simp, rfl⟩

set_option maxRecDepth 100000 in
theorem less_is (x y : Int) (w : World) : Calls Try.prog 67 #[.int .u64 x, .int .u64 y] w fun e w' => e = .returned (.bool (ltInt x y)) ∧ w' = w := by
  unfold ltInt
  go_enter Try.func67, Try.ntmps67
  go_wp2_with fail
  refine (isNaN_no x w).mono ?_
  rintro e w1 ⟨rfl, rfl⟩
  go_wp2_with fail
  go_ret
  exact ⟨rfl, rfl⟩

end Go.Proofs.Ytmfdhcnnhlchbaa

namespace Go.Proofs.Ytmfdhcnnhlchbaa
open Go.RowKit Go.Sort

section
variable {α : Type} [Inhabited α] (lt : α → α → Bool)
theorem inner_on (a j : Nat) (d : Array α) (hj : a < j) (hl : lt d[j]! d[j - 1]! = true) : insInner lt a j d = insInner lt a (j - 1) (swp d j (j - 1)) := by
  cases j with
  | zero => omega
  | succ k =>
    rw [Nat.add_sub_cancel] at hl ⊢
    conv => lhs; unfold insInner
    rw [if_pos (by simp [hl]; omega)]
theorem inner_out (a j : Nat) (d : Array α) (h : j ≤ a ∨ lt d[j]! d[j - 1]! = false) : insInner lt a j d = d := by
  cases j with
  | zero => rfl
  | succ k =>
    rw [Nat.add_sub_cancel] at h
    unfold insInner
    rw [if_neg]
    rcases h with h | h
    · simp; omega
    · simp [h]
end

set_option maxRecDepth 100000 in
set_option maxHeartbeats 1600000 in
/-- slices.insertionSortOrdered. -/
theorem insertion_is {w : World} {g o N cap a b : Nat} {d : Array Int} (h : RowAt w g o N d) (hab : a ≤ b) (hb : b ≤ d.size) (hs : d.size < 1099511627776) :
    Calls Try.prog 61 #[.slice (some ⟨g, o, none⟩) d.size cap, .int .i64 a, .int .i64 b] w fun e w' => e = .returned (.tuple #[]) ∧ Sorted w g o N (insertionSort ltInt d a b) w' := by
  go_enter Try.func61, Try.ntmps61
  go_wp2
  go_loopw [6] (fun vi wr => ∃ (i : Nat) (dk : Array Int), vi = .int .i64 i ∧ a < i ∧ i ≤ b + 1 ∧ dk.size = d.size ∧ Sorted w g o N dk wr ∧ insOuter ltInt a b i dk = insOuter ltInt a b (a + 1) d) (fun vi _ => b + 1 - (intV vi).toNat)
  case atStart => exact ⟨a + 1, d, by go_num, by omega, by omega, rfl, Sorted.start h, rfl⟩
  case round =>
    obtain ⟨i, dk, rfl, hai, hib, hsk, hSk, hO⟩ := hrel
    have HO : Hid (insOuter ltInt a b i dk = insOuter ltInt a b (a + 1) d) := hO
    clear hO
    by_cases hlt : i < b
    · go_wp2
      go_loopw [7] (fun vj wr2 => ∃ (j : Nat) (dj : Array Int), vj = .int .i64 j ∧ a ≤ j ∧ j ≤ i ∧ dj.size = d.size ∧ Sorted w g o N dj wr2 ∧ insInner ltInt a j dj = insInner ltInt a i dk) (fun vj _ => (intV vj).toNat)
      case atStart => exact ⟨i, dk, rfl, by omega, Nat.le_refl _, hsk, hSk, rfl⟩
      case round =>
        obtain ⟨j, dj, rfl, haj, hji, hsj, hSj, hI⟩ := hrel
        obtain ⟨G, hG⟩ : ∃ G : Nat → Int, ∀ t, G t = dj[t]! := ⟨fun t => dj[t]!, fun _ => rfl⟩
        have hcw : ∀ t, t < d.size → wr.cell? ⟨g, o + t, none⟩ = some (.int .u64 (G t)) := fun t ht => by rw [hG]; exact hSj.row.cell t (by omega)
        have hfw : ∀ t, t < d.size → wr.frozen? ⟨g, o + t, none⟩ = false := fun t ht => hSj.row.free t (by omega)
        have HG : Hid (∀ t, G t = dj[t]!) := hG
        have HI : Hid (insInner ltInt a j dj = insInner ltInt a i dk) := hI
        have HS : Hid (Sorted w g o N dj wr) := hSj
        clear hG hI hSj
        have out : (j ≤ a ∨ ltInt dj[j]! dj[j - 1]! = false) → ∀ q, ∃ (i' : Nat) (dk' : Array Int), Value.int .i64 ((i : Int) + 1) = .int .i64 (i' : Nat) ∧ a < i' ∧ i' ≤ b + 1 ∧ dk'.size = d.size ∧ Sorted w g o N dk' (wr.drewN q) ∧ insOuter ltInt a b i' dk' = insOuter ltInt a b (a + 1) d := fun hs q =>
          ⟨i + 1, dj, by go_num, by omega, by omega, hsj, HS.out.drewN q, by
            rw [← HO.out]
            conv => rhs; unfold insOuter
            rw [if_pos hlt, ← HI.out, inner_out _ _ _ _ hs]⟩
        have OUT : Hid _ := out
        clear out
        go_wp2
        by_cases hja : a < j
        · go_quiet (first | (go_at_call 67; refine Calls.quiet_of_same (less_is _ _ _)))
          go_wp2
          · have hl : ltInt (G j) (G (j - 1)) = true := by assumption
            go_region
            all_goals go_wp2
            go_roundw
            case rel =>
              refine ⟨j - 1, swp dj j (j - 1), by congr 1; omega, by omega, by omega, by rw [size_swp]; exact hsj, ?_, ?_⟩
              · rw [HG.out, HG.out]
                exact (HS.out.drewN (nq + 1)).swap (by omega) (by omega)
              · rw [← HI.out, inner_on ltInt a j dj hja (by rw [← HG.out, ← HG.out]; exact hl)]
            case measure => simp [intV]; omega
          · have hl : ltInt (G j) (G (j - 1)) = false := by assumption
            go_roundw
            case rel => exact OUT.out (Or.inr (by rw [← HG.out, ← HG.out]; exact hl)) nq
            case measure => simp [intV]; omega
        · go_quiet (first | (go_at_call 67; refine Calls.quiet_of_same (less_is _ _ _)))
          go_wp2
          go_roundw
          case rel => exact OUT.out (Or.inl (by omega)) nq
          case measure => simp [intV]; omega
    · go_wp2
      go_end0
      refine ⟨rfl, ?_⟩
      unfold insertionSort
      rw [← HO.out]
      unfold insOuter
      rw [if_neg hlt]
      exact hSk

end Go.Proofs.Ytmfdhcnnhlchbaa
