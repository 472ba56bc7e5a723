import Derived.Test.YtmfdhcnnhlchbaaC33
import Derived.Test.YtmfdhcnnhlchbaaC34
import Derived.Test.YtmfdhcnnhlchbaaC36
import Derived.Test.YtmfdhcnnhlchbaaC30
import Derived.ChangeKeysEq
import Derived.Test.YtmfdhcnnhlchbaaC20
import Derived.Test.YtmfdhcnnhlchbaaC31
namespace Go.Proofs.Ytmfdhcnnhlchbaa
open Go.RowKit Go.Maps

section
variable {lab : Nat → Nat} {w : World} {y x : Nat} {m : Mod} {L0 L1 L0' L1' : Lg} {r0 r1 : LgAt} {B c : Nat} {k n seq : Int} {p : Pk}

theorem took_all (h : Wm lab w y x m L0 L1 r0 r1 B) (hc : c < 2) (hB : B ≤ 8000000) (h0 : Lens L0) (h1 : Lens L1) (ht : Took c k n p seq m L0 L1 L0' L1') :
    Calls Try.prog 12 #[.pointer (some ⟨y, 0, none⟩), .int .i64 c, stepAgg k n p, .int .u64 seq] w fun e w' => e = .returned (.bool true) ∧ TookTo lab w y x m B L0' L1' w' := by
  have hl : ∀ d : Nat, Lens (lgOf L0 L1 d) := fun d => by
    by_cases e : d = 0
    · simp only [lgOf, if_pos e]; exact h0
    · simp only [lgOf, if_neg e]; exact h1
  cases ht with
  | send hk hs => subst hk; exact took_send h hc (hl c) hs
  | other e1 e4 e5 e6 e7 => exact (took_other e1 e4 e5 e6 e7).mono fun e w' ⟨he, g⟩ => ⟨he, TookTo.mk (h.grown g) (StepW.ofG g (fun _ _ => rfl))⟩
  | recv o i q hk ho hn hq hp ha hb => subst hk; exact took_recv h ho (hl o) hn hq hp ha hb
  | ack i v hk hn hp ha hv hb => subst hk; exact took_ack h hc (hl c) hn ha hv hp hb
  | back i hk hn hp ha ho => exact took_back h hc hB (hl c) hk hn ha hp ho

end

end Go.Proofs.Ytmfdhcnnhlchbaa

namespace Go.Proofs.Ytmfdhcnnhlchbaa
open Go.RowKit Go.Maps

theorem info64 : ∃ i, Try.prog.info? 28 = some i ∧ i.size = 1 := by
  obtain ⟨i, h, _, s, _⟩ := info_parts (show (Try.prog.info? 28).map (fun i => (i.zero, i.size, i.bytes)) = some (some (.int .u64 0), 1, 8) by kernel_rfl)
  exact ⟨i, h, s⟩

theorem plain64 : Try.prog.plainKey 28 = true := by kernel_rfl

theorem cells64 : Try.prog.cellsOf 28 = 1 := by kernel_rfl

theorem eq64 (d : Nat) (a b : Int) (w : World) : (Op.equalIn (d + 1) 28 (.int .u64 a) (.int .u64 b)).run Try.prog w = .ok (a == b) w := by
  simp [Op.equalIn, run_underlying Try.underlying28]

theorem eq_arr (a b a' b' : Int) (w : World) : (Op.equalIn 10000 56 (.agg #[.int .u64 a, .int .u64 b]) (.agg #[.int .u64 a', .int .u64 b'])).run Try.prog w = .ok (a == a' && b == b') w := by
  obtain ⟨i, hi, _⟩ := info64
  rw [show (10000 : Nat) = 9999 + 1 from rfl, run_equalIn_array _ 9999 _ _ Try.underlying56 hi, cells64]
  have p0 : ∀ x y : Int, (part 28 #[.int .u64 x, .int .u64 y] 0).run Try.prog w = .ok (.int .u64 x) w := fun x y => run_part_plain w plain64 (by simp)
  have p1 : ∀ x y : Int, (part 28 #[.int .u64 x, .int .u64 y] 1).run Try.prog w = .ok (.int .u64 y) w := fun x y => run_part_plain w plain64 (by simp)
  simp only [List.range_succ, List.range_zero, List.nil_append, List.cons_append, Op.eqItems, Nat.mul_one, Sem.run_bind, p0, Result.andThen_ok, eq64 9998]
  cases h : (a == a')
  · simp
  · cases h2 : (b == b') <;> simp [p1, eq64 9998, h2]

end Go.Proofs.Ytmfdhcnnhlchbaa

namespace Go.Proofs.Ytmfdhcnnhlchbaa
open Go.RowKit

/-- What is under way of a coin, of the first so many packets. -/
def way (L : Lg) (j : Int) : Nat → Int
  | 0 => 0
  | i + 1 => way L j i + (owes L j i).getD 0

abbrev wayAll (L : Lg) (j : Int) : Int := way L j L.sent.length

theorem way_same {L L' : Lg} {j : Int} {n : Nat} (h : ∀ k, k < n → owes L' j k = owes L j k) : way L' j n = way L j n := by
  induction n with
  | zero => rfl
  | succ n ih => rw [way, way, ih (fun k hk => h k (by omega)), h n (by omega)]

theorem way_change {L L' : Lg} {j : Int} {i n : Nat} (hi : i < n) (h : ∀ k, k ≠ i → owes L' j k = owes L j k) : way L' j n = way L j n - (owes L j i).getD 0 + (owes L' j i).getD 0 := by
  induction n with
  | zero => omega
  | succ n ih =>
    rw [way, way]
    by_cases e : i = n
    · subst e
      rw [way_same (L' := L') (L := L) (fun k hk => h k (by omega))]
      omega
    · rw [ih (by omega), h n (by omega)]
      omega

/-- Packets that a chain has let through. -/
def PkOk (p : Pk) : Prop := (0 ≤ p.src ∧ p.src ≤ 2) ∧ (p.coin = 0 ∨ p.coin = 1) ∧ 0 ≤ p.amount

theorem owes_nn {L : Lg} {j : Int} {i : Nat} (h : ∀ p ∈ L.sent, PkOk p) : 0 ≤ (owes L j i).getD 0 := by
  unfold owes
  split
  · split
    · rename_i p v h1 h2 h3 h4
      exact (h p (List.mem_of_getElem? h1)).2.2
    · exact Int.le_refl _
  · exact Int.le_refl _

theorem way_nn {L : Lg} {j : Int} (h : ∀ p ∈ L.sent, PkOk p) (n : Nat) : 0 ≤ way L j n := by
  induction n with
  | zero => exact Int.le_refl _
  | succ n ih => rw [way]; have := owes_nn (j := j) (i := n) h; omega

theorem way_mono {L : Lg} {j : Int} (h : ∀ p ∈ L.sent, PkOk p) {a n : Nat} (ha : a ≤ n) : way L j a ≤ way L j n := by
  induction n with
  | zero => rw [show a = 0 by omega]; exact Int.le_refl _
  | succ n ih =>
    rcases Nat.lt_or_ge a (n + 1) with h1 | h1
    · rw [way]; have := owes_nn (j := j) (i := n) h; have := ih (by omega); omega
    · rw [show a = n + 1 by omega]; exact Int.le_refl _

/-- The sums that the law makes are the sums. -/
theorem under_way {L : Lg} {j acc : Int} (h : ∀ p ∈ L.sent, PkOk p) (n : Nat) (h0 : 0 ≤ acc) (h1 : acc + way L j n < 18446744073709551616) : under L j acc n = acc + way L j n := by
  induction n with
  | zero => simp [under, way]
  | succ n ih =>
    have hm := way_nn (j := j) h n
    have hp := owes_nn (j := j) (i := n) h
    rw [way] at h1
    have e := ih (by omega)
    rw [under, way]
    cases ho : owes L j n with
    | none => simp [e]
    | some a =>
      rw [ho] at h1 hp
      simp only [Option.getD_some] at h1 hp ⊢
      rw [e, IntKind.wrap_u64]
      omega

/-- Where a ledger gains, or loses, a packet. -/
theorem way_send {L : Lg} {j : Int} {p : Pk} (ha : L.ans.length = L.sent.length) (hp : L.pend.length = L.sent.length) : wayAll (L.sends p) j = wayAll L j + (if p.coin = j then p.amount else 0) := by
  have hl : (L.sends p).sent.length = L.sent.length + 1 := by simp [Lg.sends]
  rw [wayAll, hl, way]
  have h1 : way (L.sends p) j L.sent.length = way L j L.sent.length := by
    refine way_same fun k hk => ?_
    simp only [owes, Lg.sends]
    rw [List.getElem?_append_left hk, List.getElem?_append_left (by omega), List.getElem?_append_left (by omega)]
  have h2 : owes (L.sends p) j L.sent.length = if p.coin = j then some p.amount else none := by
    simp only [owes, Lg.sends]
    rw [List.getElem?_append_right (by omega), List.getElem?_append_right (by omega), List.getElem?_append_right (by omega)]
    simp [hp, ha]
  rw [h1, h2]
  split <;> simp

theorem way_done {L : Lg} {j : Int} {i : Nat} {q : Pk} {v : Int} (hq : L.sent[i]? = some q) (hp : L.pend[i]? = some true) (hv : L.ans[i]? = some v) : wayAll (L.done i) j = wayAll L j - (if q.coin = j ∧ v ≠ 1 then q.amount else 0) := by
  have hi := lt_of_some hq
  show way (L.done i) j L.sent.length = _
  rw [way_change hi (L := L) (fun k hk => ?_)]
  · have h1 : owes L j i = if q.coin = j ∧ v ≠ 1 then some q.amount else none := by simp only [owes, hq, hp, hv]
    have h2 : owes (L.done i) j i = none := by
      simp only [owes, Lg.done, List.getElem?_set, if_true, hq, hv]
      rw [if_pos (lt_of_some hp)]
    rw [h1, h2]
    split <;> simp
  · simp only [owes, Lg.done, List.getElem?_set]
    rw [if_neg (fun e => hk e.symm)]

theorem way_answered {L : Lg} {j : Int} {i : Nat} {q : Pk} {v : Int} (hq : L.sent[i]? = some q) (hp : L.pend[i]? = some true) (hv : L.ans[i]? = some 0) : wayAll (L.answered i v) j = wayAll L j - (if q.coin = j ∧ v = 1 then q.amount else 0) := by
  have hi := lt_of_some hq
  show way (L.answered i v) j L.sent.length = _
  rw [way_change hi (L := L) (fun k hk => ?_)]
  · have h1 : owes L j i = if q.coin = j then some q.amount else none := by simp [owes, hq, hp, hv]
    have h2 : owes (L.answered i v) j i = if q.coin = j ∧ v ≠ 1 then some q.amount else none := by
      simp only [owes, Lg.answered, List.getElem?_set, if_true, hq, hp]
      rw [if_pos (lt_of_some hv)]
    rw [h1, h2]
    by_cases e1 : q.coin = j <;> by_cases e2 : v = 1 <;> simp [e1, e2]
  · simp only [owes, Lg.answered, List.getElem?_set]
    rw [if_neg (fun e => hk e.symm)]

end Go.Proofs.Ytmfdhcnnhlchbaa

namespace Go.Proofs.Ytmfdhcnnhlchbaa
open Go.RowKit

/-- What all accounts of a chain have of a coin. -/
def Ch.bal (S : Ch) (j : Int) : Int := if j = 0 then S.h0 + S.h2 + S.h4 else S.h1 + S.h3 + S.h5

structure Nn (S : Ch) : Prop where
  a0 : 0 ≤ S.h0
  a1 : 0 ≤ S.h1
  a2 : 0 ≤ S.h2
  a3 : 0 ≤ S.h3
  a4 : 0 ≤ S.h4
  a5 : 0 ≤ S.h5

/-- Both chains, by the eyes of chain s: coins are as many as ever. -/
structure Eyes (s : Int) (S O : Ch) (Ls Lo : Lg) : Prop where
  hs : s = 0 ∨ s = 1
  nS : S.n = s
  nO : O.n = 1 - s
  pS : Nn S
  pO : Nn O
  mine : S.bal s + O.bal s + (wayAll Ls s + wayAll Lo s) = 3000
  theirs : S.bal (1 - s) + O.bal (1 - s) + (wayAll Ls (1 - s) + wayAll Lo (1 - s)) = 3000
  lockS : S.locked = O.about + (wayAll Ls s + wayAll Lo s)
  lockO : O.locked = S.about + (wayAll Ls (1 - s) + wayAll Lo (1 - s))
  abS : S.about = S.bal (1 - s)
  abO : O.about = O.bal s
  qs : ∀ p ∈ Ls.sent, PkOk p
  qo : ∀ p ∈ Lo.sent, PkOk p

/-- The same money. -/
structure Mny (S T : Ch) : Prop where
  n : T.n = S.n
  a0 : T.h0 = S.h0
  a1 : T.h1 = S.h1
  a2 : T.h2 = S.h2
  a3 : T.h3 = S.h3
  a4 : T.h4 = S.h4
  a5 : T.h5 = S.h5
  l : T.locked = S.locked
  b : T.about = S.about

theorem Mny.bal {S T : Ch} (h : Mny S T) (j : Int) : T.bal j = S.bal j := by unfold Ch.bal; rw [h.a0, h.a1, h.a2, h.a3, h.a4, h.a5]

theorem Mny.refl (S : Ch) : Mny S S := ⟨rfl, rfl, rfl, rfl, rfl, rfl, rfl, rfl, rfl⟩

section
variable {s : Int} {S T O : Ch} {Ls Lo Ls' Lo' : Lg}

theorem Eyes.flip (h : Eyes s S O Ls Lo) : Eyes (1 - s) O S Lo Ls where
  hs := by have := h.hs; omega
  nS := h.nO
  nO := by rw [h.nS]; omega
  pS := h.pO
  pO := h.pS
  mine := by have := h.theirs; omega
  theirs := by have := h.mine; rw [show 1 - (1 - s) = s by omega]; omega
  lockS := by have := h.lockO; omega
  lockO := by have := h.lockS; rw [show 1 - (1 - s) = s by omega]; omega
  abS := by rw [show 1 - (1 - s) = s by omega]; exact h.abO
  abO := h.abS
  qs := h.qo
  qo := h.qs

theorem Eyes.same (h : Eyes s S O Ls Lo) (e : Mny S T) : Eyes s T O Ls Lo where
  hs := h.hs
  nS := e.n.trans h.nS
  nO := h.nO
  pS := by obtain ⟨a, b, c, d, f, g⟩ := h.pS; obtain ⟨_, a0, a1, a2, a3, a4, a5, _, _⟩ := e; exact ⟨by omega, by omega, by omega, by omega, by omega, by omega⟩
  pO := h.pO
  mine := by rw [e.bal]; exact h.mine
  theirs := by rw [e.bal]; exact h.theirs
  lockS := by rw [e.l]; exact h.lockS
  lockO := by rw [e.b]; exact h.lockO
  abS := by rw [e.b, e.bal]; exact h.abS
  abO := h.abO
  qs := h.qs
  qo := h.qo

/-- Coins that were under way come to an account of S. -/
theorem Eyes.give (h : Eyes s S O Ls Lo) {u coin a : Int} (hu : 0 ≤ u ∧ u ≤ 2) (hc : coin = 0 ∨ coin = 1) (ha : 0 ≤ a) (hle : a ≤ wayAll Ls coin + wayAll Lo coin) (hnn : ∀ j, 0 ≤ wayAll Ls j + wayAll Lo j)
    (hw : ∀ j, wayAll Ls' j + wayAll Lo' j = wayAll Ls j + wayAll Lo j - (if coin = j then a else 0)) (q1 : ∀ p ∈ Ls'.sent, PkOk p) (q2 : ∀ p ∈ Lo'.sent, PkOk p) : Eyes s (S.credit u coin a) O Ls' Lo' := by
  obtain ⟨hs, nS, nO, ⟨a0, a1, a2, a3, a4, a5⟩, pO, mine, theirs, lockS, lockO, abS, abO, qs, qo⟩ := h
  have ⟨o0, o1, o2, o3, o4, o5⟩ := pO
  have hw0 := hw 0
  have hw1 := hw 1
  have n0 := hnn 0
  have n1 := hnn 1
  clear hw hnn
  rcases hs with rfl | rfl
  all_goals rcases (show u = 0 ∨ u = 1 ∨ u = 2 by omega) with rfl | rfl | rfl
  all_goals rcases hc with rfl | rfl
  all_goals
    simp [Ch.bal] at mine theirs lockS lockO abS abO hw0 hw1 nS nO
    refine ⟨by decide, by simpa [Ch.credit, Ch.put] using nS, by simpa using nO, ⟨?_, ?_, ?_, ?_, ?_, ?_⟩, pO, ?_, ?_, ?_, ?_, ?_, ?_, q1, q2⟩
  all_goals
    simp [Ch.bal, Ch.credit, Ch.put, Ch.get, hasAt, nS, IntKind.wrap_u64]
    try omega

/-- Coins of an account of S go under way. -/
theorem Eyes.take (h : Eyes s S O Ls Lo) {p : Pk} (hp : PkOk p) (hle : p.amount ≤ S.get (hasAt p.src p.coin)) (hnn : ∀ j, 0 ≤ wayAll Ls j + wayAll Lo j)
    (hw : ∀ j, wayAll Ls' j + wayAll Lo' j = wayAll Ls j + wayAll Lo j + (if p.coin = j then p.amount else 0)) (q1 : ∀ p ∈ Ls'.sent, PkOk p) (q2 : ∀ p ∈ Lo'.sent, PkOk p) : Eyes s (S.moved p) O Ls' Lo' := by
  obtain ⟨hs, nS, nO, ⟨a0, a1, a2, a3, a4, a5⟩, pO, mine, theirs, lockS, lockO, abS, abO, qs, qo⟩ := h
  have ⟨o0, o1, o2, o3, o4, o5⟩ := pO
  have hw0 := hw 0
  have hw1 := hw 1
  have n0 := hnn 0
  have n1 := hnn 1
  clear hw hnn
  obtain ⟨seq, src, dst, coin, a, hh, tt⟩ := p
  obtain ⟨hu, hc, ha⟩ := hp
  simp only at hu hc ha hle hw0 hw1
  rcases hs with rfl | rfl
  all_goals rcases (show src = 0 ∨ src = 1 ∨ src = 2 by omega) with rfl | rfl | rfl
  all_goals rcases hc with rfl | rfl
  all_goals
    simp [Ch.bal] at mine theirs lockS lockO abS abO hw0 hw1 nS nO
    simp [Ch.get, hasAt] at hle
    refine ⟨by decide, by simpa [Ch.moved, Ch.spent, Ch.put] using nS, by simpa using nO, ⟨?_, ?_, ?_, ?_, ?_, ?_⟩, pO, ?_, ?_, ?_, ?_, ?_, ?_, q1, q2⟩
  all_goals
    simp [Ch.bal, Ch.moved, Ch.spent, Ch.put, Ch.get, hasAt, nS, IntKind.wrap_u64]
    try omega

end

end Go.Proofs.Ytmfdhcnnhlchbaa

namespace Go.Proofs.Ytmfdhcnnhlchbaa
open Go.RowKit

section
variable {s : Int} {S O : Ch} {Ls Lo : Lg} {N i : Nat} {n k v : Int} {p q : Pk} {K : Hd} {hl : Nat}

theorem Eyes.nn (e : Eyes s S O Ls Lo) (j : Int) : 0 ≤ wayAll Ls j + wayAll Lo j := by
  have h1 : 0 ≤ wayAll Ls j := way_nn (j := j) e.qs Ls.sent.length
  have h2 : 0 ≤ wayAll Lo j := way_nn (j := j) e.qo Lo.sent.length
  omega

theorem eyes_send (e : Eyes s S O Ls Lo) (la : Ls.ans.length = Ls.sent.length) (lp : Ls.pend.length = Ls.sent.length) (ha : 0 ≤ p.amount) (hok : (sendC S p).2.2 = 0) : Eyes s (sendC S p).1 O (Ls.sends p) Lo := by
  have hf := send_form hok
  unfold sendC at hok
  by_cases h1 : S.hd.isOpen = false
  · rw [if_pos h1] at hok; cases hok
  rw [if_neg h1] at hok
  by_cases h2 : p.src < 0 ∨ 2 < p.src
  · rw [if_pos h2] at hok; cases hok
  rw [if_neg h2] at hok
  by_cases h3 : p.coin < 0 ∨ 1 < p.coin
  · rw [if_pos h3] at hok; cases hok
  rw [if_neg h3] at hok
  by_cases h4 : p.amount = 0
  · rw [if_pos h4] at hok; cases hok
  rw [if_neg h4] at hok
  by_cases h5 : S.get (hasAt p.src p.coin) < p.amount
  · rw [if_pos h5] at hok; cases hok
  have hpk : PkOk p := ⟨by omega, by omega, ha⟩
  have q1 : ∀ r ∈ (Ls.sends p).sent, PkOk r := by
    intro r hr
    simp only [Lg.sends, List.mem_append, List.mem_singleton] at hr
    rcases hr with hr | rfl
    · exact e.qs r hr
    · exact hpk
  have T := e.take (Ls' := Ls.sends p) (Lo' := Lo) hpk (by omega) e.nn (fun j => by rw [way_send la lp]; omega) q1 e.qo
  rw [hf]
  exact T.same ⟨rfl, rfl, rfl, rfl, rfl, rfl, rfl, rfl, rfl⟩

theorem other_mny (h1 : ¬ k = 1) (h4 : ¬ k = 4) (h5 : ¬ k = 5) (h6 : ¬ k = 6) (h7 : ¬ k = 7) : Mny S (doC S k n p K hl).1 := by
  unfold doC
  rw [if_neg h1]
  by_cases h2 : k = 2
  · rw [if_pos h2]; unfold tickC; split
    · exact Mny.refl S
    · exact ⟨rfl, rfl, rfl, rfl, rfl, rfl, rfl, rfl, rfl⟩
  rw [if_neg h2]
  by_cases h3 : k = 3
  · rw [if_pos h3]; unfold updateC; split
    · exact Mny.refl S
    · exact ⟨rfl, rfl, rfl, rfl, rfl, rfl, rfl, rfl, rfl⟩
  rw [if_neg h3, if_neg h4, if_neg h5, if_neg h6, if_neg h7]
  by_cases h8 : k = 8
  · rw [if_pos h8]; unfold closeC; split
    · exact Mny.refl S
    · exact ⟨rfl, rfl, rfl, rfl, rfl, rfl, rfl, rfl, rfl⟩
  rw [if_neg h8]
  by_cases h9 : k = 9
  · rw [if_pos h9]; unfold confirmC
    by_cases g1 : S.hd.isOpen = false
    · rw [if_pos g1]; exact Mny.refl S
    rw [if_neg g1]
    by_cases g2 : K.isOpen = true
    · rw [if_pos g2]; exact Mny.refl S
    · rw [if_neg g2]; exact ⟨rfl, rfl, rfl, rfl, rfl, rfl, rfl, rfl, rfl⟩
  rw [if_neg h9]
  exact Mny.refl S

theorem same_ledger {L : Lg} {a b : Nat} {x y : Pk} {n : Int} (h1 : L.sent[a]? = some x) (h2 : L.sent[b]? = some y) (e1 : n = (a : Int) + 1) (e2 : n = (b : Int) + 1) : a = b ∧ x = y := by
  have : a = b := by omega
  subst this
  rw [h1] at h2
  cases h2
  exact ⟨rfl, rfl⟩

theorem eyes_recv (h : Two S O Ls Lo N) (e : Eyes s S O Ls Lo) (hn : n = (i : Int) + 1) (hq : Lo.sent[i]? = some q) (hp : Lo.pend[i]? = some true) (ha : Lo.ans[i]? = some 0) (hok : (recvC S n (knownHd S O)).2.2 = 0) :
    Eyes s (recvC S n (knownHd S O)).1 O Ls (Lo.answered i (if goodTo q then 1 else 2)) := by
  have hm := known_mem h.out
  generalize knownHd S O = K at hok hm ⊢
  unfold recvC at hok ⊢
  by_cases ho : S.hd.isOpen = false
  · rw [if_pos ho] at hok; cases hok
  rw [if_neg ho] at hok ⊢
  by_cases hne : n ≠ S.hd.nextRecv
  · rw [if_pos hne] at hok; cases hok
  rw [if_neg hne] at hok ⊢
  cases hf : K.packets.find? (fun p => p.seq == n) with
  | none => rw [hf] at hok; cases hok
  | some r =>
    rw [hf] at hok
    simp only at hok ⊢
    obtain ⟨hr, hrs⟩ := find_mem_seq hf
    obtain ⟨j, q', g1, rfl⟩ := h.back.hist K hm r hr
    obtain ⟨rfl, rfl⟩ := same_ledger g1 hq hrs.symm hn
    by_cases hdu : dueB (numbered q' j) S.hd.height S.hd.time = true
    · rw [if_pos hdu] at hok; cases hok
    rw [if_neg hdu]
    have hg : goodTo (numbered q' j) = goodTo q' := rfl
    have hqk := e.qo q' (List.mem_of_getElem? hq)
    rw [hg]
    by_cases hgt : goodTo q' = true
    · simp only [hgt, if_true]
      have hw : ∀ c, wayAll (Lo.answered j 1) c = wayAll Lo c - (if q'.coin = c then q'.amount else 0) := fun c => by rw [way_answered hq hp ha]; simp
      have hle : q'.amount ≤ wayAll Ls q'.coin + wayAll Lo q'.coin := by
        have := hw q'.coin
        rw [if_pos rfl] at this
        have h0 : 0 ≤ wayAll (Lo.answered j 1) q'.coin := way_nn (L := Lo.answered j 1) (j := q'.coin) e.qo Lo.sent.length
        have h1 : 0 ≤ wayAll Ls q'.coin := way_nn (j := q'.coin) e.qs Ls.sent.length
        omega
      have hdst : 0 ≤ q'.dst ∧ q'.dst ≤ 2 := by simpa [goodTo] using hgt
      have T := e.give (Ls' := Ls) (Lo' := Lo.answered j 1) (u := q'.dst) hdst hqk.2.1 hqk.2.2 hle e.nn (fun c => by rw [hw c]; omega) e.qs e.qo
      exact T.same ⟨rfl, rfl, rfl, rfl, rfl, rfl, rfl, rfl, rfl⟩
    · have hgf : goodTo q' = false := by simpa using hgt
      simp only [hgf, Bool.false_eq_true, if_false]
      have hw : ∀ c, wayAll (Lo.answered j 2) c = wayAll Lo c := fun c => by rw [way_answered hq hp ha]; simp
      refine Eyes.same (S := S) ?_ ⟨rfl, rfl, rfl, rfl, rfl, rfl, rfl, rfl, rfl⟩
      exact ⟨e.hs, e.nS, e.nO, e.pS, e.pO, by rw [hw]; exact e.mine, by rw [hw]; exact e.theirs, by rw [hw]; exact e.lockS, by rw [hw]; exact e.lockO, e.abS, e.abO, e.qs, e.qo⟩

/-- A packet comes back to its sender, or is done with. -/
theorem eyes_back0 (e : Eyes s S O Ls Lo) (hq : Ls.sent[i]? = some q) (hp : Ls.pend[i]? = some true) (ha : Ls.ans[i]? = some v) (hv : v ≠ 1) {T : Ch} (hT : Mny S T) : Eyes s (T.credit q.src q.coin q.amount) O (Ls.done i) Lo := by
  have hqk := e.qs q (List.mem_of_getElem? hq)
  have hw : ∀ c, wayAll (Ls.done i) c = wayAll Ls c - (if q.coin = c then q.amount else 0) := fun c => by rw [way_done hq hp ha]; simp [hv]
  have hle : q.amount ≤ wayAll Ls q.coin + wayAll Lo q.coin := by
    have := hw q.coin
    rw [if_pos rfl] at this
    have h0 : 0 ≤ wayAll (Ls.done i) q.coin := way_nn (L := Ls.done i) (j := q.coin) e.qs Ls.sent.length
    have h1 : 0 ≤ wayAll Lo q.coin := way_nn (j := q.coin) e.qo Lo.sent.length
    omega
  exact (e.same hT).give hqk.1 hqk.2.1 hqk.2.2 hle e.nn (fun c => by rw [hw c]; omega) e.qs e.qo

theorem eyes_done1 (e : Eyes s S O Ls Lo) (hq : Ls.sent[i]? = some q) (hp : Ls.pend[i]? = some true) (ha : Ls.ans[i]? = some 1) : Eyes s S O (Ls.done i) Lo := by
  have hw : ∀ c, wayAll (Ls.done i) c = wayAll Ls c := fun c => by rw [way_done hq hp ha]; simp
  exact ⟨e.hs, e.nS, e.nO, e.pS, e.pO, by rw [hw]; exact e.mine, by rw [hw]; exact e.theirs, by rw [hw]; exact e.lockS, by rw [hw]; exact e.lockO, e.abS, e.abO, e.qs, e.qo⟩

theorem eyes_ack (h : Two S O Ls Lo N) (e : Eyes s S O Ls Lo) (hn : n = (i : Int) + 1) (hok : (ackC S n (knownHd S O)).2.2 = 0) : Eyes s (ackC S n (knownHd S O)).1 O (Ls.done i) Lo := by
  have hm := known_mem h.out
  generalize knownHd S O = K at hok hm ⊢
  unfold ackC at hok ⊢
  cases hf : S.hd.packets.find? (fun p => p.seq == n) with
  | none => rw [hf] at hok; cases hok
  | some r =>
    rw [hf] at hok
    simp only at hok ⊢
    obtain ⟨hr, hrs⟩ := find_mem_seq hf
    obtain ⟨j, q', g1, g2, rfl⟩ := (h.out.pk r).1 hr
    have hji : j = i := by have : (numbered q' j).seq = (j : Int) + 1 := rfl; omega
    subst hji
    by_cases hh : (S.hd.packets.head?.map (fun q => q.seq == n)) = some false
    · rw [if_pos hh] at hok; cases hok
    rw [if_neg hh] at hok ⊢
    cases hak : K.answers.find? (fun a => a.1 == n) with
    | none => rw [hak] at hok; cases hok
    | some a =>
      simp only
      have ham := List.mem_of_find?_eq_some hak
      have has : a.1 = n := by simpa using List.find?_some hak
      obtain ⟨_, _, _, _, hpre⟩ := h.out.rh K hm
      obtain ⟨l, hl⟩ := List.getElem?_of_mem (hpre.subset ham)
      have hll := lt_of_some hl
      have hls : l < Ls.sent.length := by have := h.out.rl; omega
      have hra := h.out.ra l Ls.sent[l] (List.getElem?_eq_getElem hls) hll
      rw [hl] at hra
      have hlj : l = j := by have : a.1 = (l : Int) + 1 := by cases hra; rfl
                             omega
      subst hlj
      have hqq : Ls.sent[l] = q' := by have := g1; rw [List.getElem?_eq_getElem hls] at this; simpa using this
      have ha2 : a.2 = goodTo q' := by rw [← hqq]; cases hra; rfl
      have han := h.out.an l q' g1
      rw [if_pos hll] at han
      by_cases hgt : goodTo q' = true
      · rw [ha2, if_pos hgt]
        rw [if_pos hgt] at han
        exact (eyes_done1 e g1 g2 han).same ⟨rfl, rfl, rfl, rfl, rfl, rfl, rfl, rfl, rfl⟩
      · rw [ha2, if_neg hgt]
        rw [if_neg hgt] at han
        exact eyes_back0 e g1 g2 han (by decide) (T := S.gone n) ⟨rfl, rfl, rfl, rfl, rfl, rfl, rfl, rfl, rfl⟩

theorem eyes_back {cl : Bool} (h : Two S O Ls Lo N) (e : Eyes s S O Ls Lo) (hn : n = (i : Int) + 1) (ha : Ls.ans[i]? = some 0) (hok : (backC S n K cl).2.2 = 0) : Eyes s (backC S n K cl).1 O (Ls.done i) Lo := by
  unfold backC at hok ⊢
  cases hf : S.hd.packets.find? (fun p => p.seq == n) with
  | none => rw [hf] at hok; cases hok
  | some r =>
    rw [hf] at hok
    simp only at hok ⊢
    obtain ⟨hr, hrs⟩ := find_mem_seq hf
    obtain ⟨j, q', g1, g2, rfl⟩ := (h.out.pk r).1 hr
    have hji : j = i := by have : (numbered q' j).seq = (j : Int) + 1 := rfl; omega
    subst hji
    by_cases h1 : (cl && K.isOpen) = true
    · rw [if_pos h1] at hok; cases hok
    rw [if_neg h1] at hok ⊢
    by_cases h2 : ((!cl && !dueB (numbered q' j) K.height K.time) || decide (n < K.nextRecv)) = true
    · rw [if_pos h2] at hok; cases hok
    rw [if_neg h2]
    refine Eyes.same (eyes_back0 e g1 g2 ha (by decide) (T := S.gone n) ⟨rfl, rfl, rfl, rfl, rfl, rfl, rfl, rfl, rfl⟩) ⟨rfl, rfl, rfl, rfl, rfl, rfl, rfl, rfl, rfl⟩

end

/-- Coins are as many as ever. -/
abbrev Cons (m : Mod) (L0 L1 : Lg) : Prop := Eyes 0 m.c0 m.c1 L0 L1

theorem cons_new : Cons (newMod 1000) { sent := [], ans := [], pend := [] } { sent := [], ans := [], pend := [] } := by
  refine ⟨.inl rfl, rfl, rfl, ⟨?_, ?_, ?_, ?_, ?_, ?_⟩, ⟨?_, ?_, ?_, ?_, ?_, ?_⟩, ?_, ?_, ?_, ?_, ?_, ?_, ?_, ?_⟩
  all_goals simp [newMod, newCh, rawCh, Ch.bal, wayAll, way]

section
variable {m : Mod} {L0 L1 L0' L1' : Lg} {N c : Nat} {n k seq : Int} {p : Pk}

theorem doC_k (S : Ch) (K : Hd) (hl : Nat) : doC S 1 n p K hl = sendC S p ∧ doC S 4 n p K hl = recvC S n K ∧ doC S 5 n p K hl = ackC S n K ∧ doC S 6 n p K hl = backC S n K false ∧ doC S 7 n p K hl = backC S n K true := by
  refine ⟨?_, ?_, ?_, ?_, ?_⟩ <;> simp [doC]

theorem eyes_took {s : Int} {S O : Ch} {Ls Lo Ls' Lo' : Lg} (h : Two S O Ls Lo N) (e : Eyes s S O Ls Lo) (ha : 0 ≤ p.amount) (hok : (doC S k n p (knownHd S O) O.heads.length).2.2 = 0) (m' : Mod) (t : Took 0 k n p seq m' Ls Lo Ls' Lo') : Eyes s (doC S k n p (knownHd S O) O.heads.length).1 O Ls' Lo' := by
  obtain ⟨d1, d4, d5, d6, d7⟩ := doC_k (n := n) (p := p) S (knownHd S O) O.heads.length
  cases t with
  | send hk hs =>
    subst hk
    rw [d1] at hok ⊢
    exact eyes_send e h.out.la h.out.lp ha hok
  | other h1 h4 h5 h6 h7 => exact e.same (other_mny h1 h4 h5 h6 h7)
  | recv o i q hk ho hn hq hp han hb =>
    subst hk
    obtain rfl : o = 1 := by omega
    rw [d4] at hok ⊢
    exact eyes_recv h e hn hq hp han hok
  | ack i v hk hn hp han hv hb =>
    subst hk
    rw [d5] at hok ⊢
    exact eyes_ack h e hn hok
  | back i hk hn hp han ho =>
    rcases hk with rfl | rfl
    · rw [d6] at hok ⊢
      exact eyes_back h e hn han hok
    · rw [d7] at hok ⊢
      exact eyes_back h e hn han hok

theorem Took.turn {m' : Mod} (t : Took 1 k n p seq m' L0 L1 L0' L1') : ∃ m'', Took 0 k n p seq m'' L1 L0 L1' L0' := by
  cases t with
  | send hk hs => exact ⟨m', .send hk hs⟩
  | other h1 h4 h5 h6 h7 => exact ⟨m', .other h1 h4 h5 h6 h7⟩
  | recv o i q hk ho hn hq hp han hb =>
    obtain rfl : o = 0 := by omega
    exact ⟨m', .recv 1 i q hk rfl hn hq hp han hb⟩
  | ack i v hk hn hp han hv hb => exact ⟨m', .ack i v hk hn hp han hv hb⟩
  | back i hk hn hp han ho => exact ⟨{ m' with c0 := m'.c1 }, .back i hk hn hp han ho⟩

theorem cons_took (h : Two m.c0 m.c1 L0 L1 N) (e : Cons m L0 L1) (hc : c < 2) (ha : 0 ≤ p.amount) (hok : (doM m c k n p).2.2 = 0) (t : Took c k n p (doM m c k n p).2.1 (doM m c k n p).1 L0 L1 L0' L1') : Cons (doM m c k n p).1 L0' L1' := by
  rcases (show c = 0 ∨ c = 1 by omega) with rfl | rfl
  · simp only [doM, if_true] at hok t ⊢
    exact eyes_took h e ha hok _ t
  · simp only [doM, Nat.one_ne_zero, if_false] at hok t ⊢
    obtain ⟨m'', t'⟩ := t.turn
    have := eyes_took h.flip e.flip ha hok m'' t'
    have := this.flip
    simpa using this

end

end Go.Proofs.Ytmfdhcnnhlchbaa
