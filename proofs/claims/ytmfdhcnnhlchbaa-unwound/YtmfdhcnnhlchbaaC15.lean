import Derived.Test.YtmfdhcnnhlchbaaC11
import Derived.Test.YtmfdhcnnhlchbaaC14
namespace Go.Proofs.Ytmfdhcnnhlchbaa
open Go.RowKit Go.Maps

abbrev hdn0 : HdN := ⟨newHd, [], [], [], none, 0, none, 0, none, 0⟩

/-- Where a new chain's maps and lists lie. -/
def newAt (bp bf ah kp ka : Nat) (ff : Int × Int → Option Value) (nf : Nat) : DAt :=
  { bp := bp, bf := bf, kp := kp, ka := ka, ff := ff, nf := nf, sent := [], ap := none, cp := 0, gone := [], ag := none, cg := 0, ans := [], aa := none, ca := 0, hs := [hdn0], ah := some ⟨ah, 0, none⟩, ch := 1 }

theorem good_newHd : GoodHd newHd 6 := ⟨rfl, fun i a h => by simp [newHd] at h, List.Pairwise.nil, fun p h => by simp [newHd] at h, fun p h => by simp [newHd] at h, by simp [newHd], by simp [newHd]⟩

theorem funds_new {own coins : Int} {ff : Int × Int → Option Value} (ho : own = 0 ∨ own = 1) (hf : ∀ u c : Int, (ff (u, c)).getD (.int .u64 0) = .int .u64 (if (0 ≤ u ∧ u ≤ 2) ∧ c = own then coins else 0)) : FundsOk ff (newCh own coins) := by
  intro u c
  rw [hf u c]
  by_cases hu : 0 ≤ u ∧ u ≤ 2
  · have hu' : u = 0 ∨ u = 1 ∨ u = 2 := by omega
    by_cases hc : 0 ≤ c ∧ c ≤ 1
    · have hc' : c = 0 ∨ c = 1 := by omega
      rcases hu' with rfl | rfl | rfl <;> rcases hc' with rfl | rfl <;> rcases ho with rfl | rfl <;> simp [hasAt, newCh, rawCh, Ch.get]
    · have : c ≠ own := by rcases ho with rfl | rfl <;> omega
      rw [if_neg (fun e => this e.2), if_neg (fun e => hc e.2)]
  · rw [if_neg (fun e => hu e.1), if_neg (fun e => hu e.1)]

theorem nil_row (w : World) (e size : Nat) : w.ownsRow 0 e size (.slice none 0 0) 0 [] := ⟨by simp, .inl ⟨rfl, rfl⟩⟩
theorem nil_lab (lab : Nat → Nat) (l : Nat) : labelled lab (.slice none 0 0) l := fun k e => by cases e

theorem devch_new {lab : Nat → Nat} {l : Nat} {w : World} {x : Nat} {pre post : List Value} {own coins : Int} {bp bf ah kp ka nf : Nat} {ff : Int × Int → Option Value} (ho : own = 0 ∨ own = 1)
    (hX : w.heap[x]? = some (.cells (pre ++ dchCells (newCh own coins) newHd (newAt bp bf ah kp ka ff nf) ++ post).toArray tBr (0, 0))) (hlx : lab x ≠ l ∧ lab x ≠ 0)
    (p : w.heap[bp]? = some (.map #[] 0)) (m : MapIs Try.prog tHold encH w bf ff nf) (hkp : w.heap[kp]? = some (.map #[] 0)) (hka : w.heap[ka]? = some (.map #[] 0))
    (lm : lab bp = l ∧ lab bf = l ∧ lab kp = l ∧ lab ka = l) (lh : lab ah = l) (ap : (bp ≠ bf ∧ bp ≠ kp ∧ bp ≠ ka) ∧ (bf ≠ kp ∧ bf ≠ ka) ∧ kp ≠ ka)
    (hn : nf ≤ 3) (hf : ∀ u c : Int, (ff (u, c)).getD (.int .u64 0) = .int .u64 (if (0 ≤ u ∧ u ≤ 2) ∧ c = own then coins else 0))
    (r : w.ownsRow 0 tHeader 9 (.slice (some ⟨ah, 0, none⟩) 1 1) 1 (HdN.cells hdn0)) : DevCh lab l w x pre post (newCh own coins) newHd (newAt bp bf ah kp ka ff nf) 6 := by
  refine ⟨hX, hlx, mapIs_made encU tU64 p, m, mapIs_made encU tU64 hkp, mapIs_made encU tU64 hka, lm, ap, nil_row _ _ _, nil_lab _ _, nil_row _ _ _, nil_lab _ _, nil_row _ _ _, nil_lab _ _, by simpa [newAt, DAt.vh] using r, fun k e => ?_, fun y hy => ?_, rfl, funds_new ho hf, ?_, good_newHd⟩
  · simp [newAt, DAt.vh, Value.ownBlock] at e
    rw [← e]
    exact lh
  · simp [newAt] at hy
    subst hy
    exact ⟨⟨nil_row _ _ _, nil_lab _ _⟩, ⟨nil_row _ _ _, nil_lab _ _⟩, nil_row _ _ _, nil_lab _ _⟩
  · refine ⟨good_newHd, by simp [newCh, rawCh], fun p h => by simp [newCh, rawCh, newHd] at h, fun k h => by simp [newAt] at h, fun i h e => ?_, by simp [newCh], by simp [newAt], by simp [newAt], by simp [newAt], by simp [newAt]; omega, ⟨hdn0, rfl, fun k => rfl, rfl⟩, trivial, fun y hy => ?_, fun p h => by simp [newAt] at h, fun y hy p h => ?_⟩
    · cases i with
      | zero => simp [newCh] at e; subst e; exact ⟨rfl, good_newHd⟩
      | succ i => simp [newCh] at e
    · simp [newAt] at hy
      subst hy
      simp
    · simp [newAt] at hy
      subst hy
      simp at h

/-- Labels of what New makes. -/
def newLab (s0 s1 s2 s4 k : Nat) : Nat := if k < s0 then 0 else if k < s1 then 1 else if k < s2 then 2 else if k = s2 then 3 else if k < s4 then 1 else 2

theorem newLab_x {s0 s1 s2 s4 : Nat} (h1 : s0 ≤ s1) (h2 : s1 ≤ s2) : newLab s0 s1 s2 s4 s2 = 3 := by
  unfold newLab
  rw [if_neg (by omega), if_neg (by omega), if_neg (by omega), if_pos rfl]
theorem newLab_1 {s0 s1 s2 s4 k : Nat} (h1 : s0 ≤ k) (h2 : k < s1) : newLab s0 s1 s2 s4 k = 1 := by
  unfold newLab
  rw [if_neg (by omega), if_pos (by omega)]
theorem newLab_2 {s0 s1 s2 s4 k : Nat} (h0 : s0 ≤ s1) (h1 : s1 ≤ k) (h2 : k < s2) : newLab s0 s1 s2 s4 k = 2 := by
  unfold newLab
  rw [if_neg (by omega), if_neg (by omega), if_pos (by omega)]
theorem newLab_3 {s0 s1 s2 s4 k : Nat} (h0 : s0 ≤ s1) (h1 : s1 ≤ s2) (h2 : s2 < k) (h3 : k < s4) : newLab s0 s1 s2 s4 k = 1 := by
  unfold newLab
  rw [if_neg (by omega), if_neg (by omega), if_neg (by omega), if_neg (by omega), if_pos h3]
theorem newLab_4 {s0 s1 s2 s4 k : Nat} (h0 : s0 ≤ s1) (h1 : s1 ≤ s2) (h2 : s2 < k) (h3 : s4 ≤ k) : newLab s0 s1 s2 s4 k = 2 := by
  unfold newLab
  rw [if_neg (by omega), if_neg (by omega), if_neg (by omega), if_neg (by omega), if_neg (by omega)]

/-- New has made a bridge. -/
def BrNew (w : World) (coins : Int) (e : Ending) (w' : World) : Prop :=
  ∃ x lab a0 a1, e = .returned (.tuple #[.pointer (some ⟨x, 0, none⟩), .int .i64 0]) ∧ Br lab w' x (newMod coins) a0 a1 newHd newHd 6 ∧ (∀ k, k < w.heap.size → lab k = 0) ∧ w.heap.size ≤ x ∧ w.grownBy w' none

abbrev brEnd (bp bf ah kp ka bp' bf' ah' kp' ka' : Nat) : Array Value := #[.bool true, .int .u64 1, .int .u64 1, .map (some bp), .slice none 0 0, .slice none 0 0, .slice none 0 0, .int .i64 0, .int .u64 0, .int .u64 0, .map (some bf), .int .u64 0, .int .u64 0, .slice (some ⟨ah, 0, none⟩) 1 1, .int .u64 0, .int .u64 0, .bool true, .int .u64 1, .int .i64 0, .int .i64 0, .map (some kp), .map (some ka), .bool true, .int .u64 1, .int .u64 1, .map (some bp'), .slice none 0 0, .slice none 0 0, .slice none 0 0, .int .i64 1, .int .u64 0, .int .u64 0, .map (some bf'), .int .u64 0, .int .u64 0, .slice (some ⟨ah', 0, none⟩) 1 1, .int .u64 0, .int .u64 0, .bool true, .int .u64 1, .int .i64 0, .int .i64 0, .map (some kp'), .map (some ka'), .int .i64 0]

theorem brEnd_is (coins : Int) (bp bf ah kp ka bp' bf' ah' kp' ka' nf nf' : Nat) (ff ff' : Int × Int → Option Value) :
    brEnd bp bf ah kp ka bp' bf' ah' kp' ka' = (dchCells (newCh 0 coins) newHd (newAt bp bf ah kp ka ff nf) ++ (dchCells (newCh 1 coins) newHd (newAt bp' bf' ah' kp' ka' ff' nf') ++ [Value.int .i64 0])).toArray := by
  simp only [brEnd, dchCells, newAt, newCh, rawCh, newHd, List.cons_append, List.nil_append, List.length_nil]
  rfl

theorem br_new {w w1 w2 w4 w' : World} {coins : Int} {bp bf ah kp ka nf bp' bf' ah' kp' ka' nf' : Nat} {ff ff' : Int × Int → Option Value}
    (hX : w'.heap[w2.heap.size]? = some (.cells (brEnd bp bf ah kp ka bp' bf' ah' kp' ka') tBr (0, 0)))
    (p : w'.heap[bp]? = some (.map #[] 0)) (m : MapIs Try.prog tHold encH w' bf ff nf) (hkp : w'.heap[kp]? = some (.map #[] 0)) (hka : w'.heap[ka]? = some (.map #[] 0))
    (hn : nf ≤ 3) (hf : ∀ u c : Int, (ff (u, c)).getD (.int .u64 0) = .int .u64 (if (0 ≤ u ∧ u ≤ 2) ∧ c = 0 then coins else 0))
    (r : w'.ownsRow 0 tHeader 9 (.slice (some ⟨ah, 0, none⟩) 1 1) 1 (HdN.cells hdn0))
    (p' : w'.heap[bp']? = some (.map #[] 0)) (m' : MapIs Try.prog tHold encH w' bf' ff' nf') (hkp' : w'.heap[kp']? = some (.map #[] 0)) (hka' : w'.heap[ka']? = some (.map #[] 0))
    (hn' : nf' ≤ 3) (hf' : ∀ u c : Int, (ff' (u, c)).getD (.int .u64 0) = .int .u64 (if (0 ≤ u ∧ u ≤ 2) ∧ c = 1 then coins else 0))
    (r' : w'.ownsRow 0 tHeader 9 (.slice (some ⟨ah', 0, none⟩) 1 1) 1 (HdN.cells hdn0))
    (o1 : w.heap.size ≤ bp ∧ w.heap.size ≤ bf ∧ w.heap.size ≤ ah ∧ bp ≠ bf) (o2 : bp < w1.heap.size ∧ bf < w1.heap.size ∧ ah < w1.heap.size) (s01 : w.heap.size ≤ w1.heap.size)
    (o1' : w1.heap.size ≤ bp' ∧ w1.heap.size ≤ bf' ∧ w1.heap.size ≤ ah' ∧ bp' ≠ bf') (o2' : bp' < w2.heap.size ∧ bf' < w2.heap.size ∧ ah' < w2.heap.size) (s12 : w1.heap.size ≤ w2.heap.size)
    (o3 : w2.heap.size < kp ∧ w2.heap.size < ka ∧ kp ≠ ka ∧ kp < w4.heap.size ∧ ka < w4.heap.size) (o3' : w4.heap.size ≤ kp' ∧ w4.heap.size ≤ ka' ∧ kp' ≠ ka')
    (g : w.grownBy w' none) : BrNew w coins (.returned (.tuple #[.pointer (some ⟨w2.heap.size, 0, none⟩), .int .i64 0])) w' := by
  have e := brEnd_is coins bp bf ah kp ka bp' bf' ah' kp' ka' nf nf' ff ff'
  rw [e] at hX
  have lx : newLab w.heap.size w1.heap.size w2.heap.size w4.heap.size w2.heap.size = 3 := newLab_x s01 s12
  have l1 : ∀ k, w.heap.size ≤ k → k < w1.heap.size → newLab w.heap.size w1.heap.size w2.heap.size w4.heap.size k = 1 := fun k h1 h2 => newLab_1 h1 h2
  have l2 : ∀ k, w1.heap.size ≤ k → k < w2.heap.size → newLab w.heap.size w1.heap.size w2.heap.size w4.heap.size k = 2 := fun k h1 h2 => newLab_2 s01 h1 h2
  have l3 : ∀ k, w2.heap.size < k → k < w4.heap.size → newLab w.heap.size w1.heap.size w2.heap.size w4.heap.size k = 1 := fun k h1 h2 => newLab_3 s01 s12 h1 h2
  have l4 : ∀ k, w2.heap.size < k → w4.heap.size ≤ k → newLab w.heap.size w1.heap.size w2.heap.size w4.heap.size k = 2 := fun k h1 h2 => newLab_4 s01 s12 h1 h2
  refine ⟨w2.heap.size, newLab w.heap.size w1.heap.size w2.heap.size w4.heap.size, newAt bp bf ah kp ka ff nf, newAt bp' bf' ah' kp' ka' ff' nf', rfl, ⟨?_, ?_, ⟨hdn0, rfl, rfl⟩, ⟨hdn0, rfl, rfl⟩, rfl, rfl, lx⟩, fun k hk => by simp [newLab, hk], by omega, g⟩
  · exact devch_new (.inl rfl) (by simpa [newMod] using hX) (by rw [lx]; decide) p m hkp hka ⟨l1 _ o1.1 o2.1, l1 _ o1.2.1 o2.2.1, l3 _ o3.1 o3.2.2.2.1, l3 _ o3.2.1 o3.2.2.2.2⟩ (l1 _ o1.2.2.1 o2.2.2) ⟨⟨o1.2.2.2, by omega, by omega⟩, ⟨by omega, by omega⟩, o3.2.2.1⟩ hn hf r
  · exact devch_new (.inr rfl) (by simpa [newMod] using hX) (by rw [lx]; decide) p' m' hkp' hka' ⟨l2 _ o1'.1 o2'.1, l2 _ o1'.2.1 o2'.2.1, l4 _ (by omega) o3'.1, l4 _ (by omega) o3'.2.1⟩ (l2 _ o1'.2.2.1 o2'.2.2) ⟨⟨o1'.2.2.2, by omega, by omega⟩, ⟨by omega, by omega⟩, o3'.2.2⟩ hn' hf' r'

end Go.Proofs.Ytmfdhcnnhlchbaa
