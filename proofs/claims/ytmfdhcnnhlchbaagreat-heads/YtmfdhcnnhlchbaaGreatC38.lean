import Derived.Test.YtmfdhcnnhlchbaaGreatC35
import Derived.Test.YtmfdhcnnhlchbaaGreatC37
namespace Go.Proofs.YtmfdhcnnhlchbaaGreat
open Go.RowKit Go.Maps

abbrev hdn0 : HdN := ⟨newHd, [], [], [], none, 0, none, 0, none, 0⟩

/-- Where a new chain's maps and lists lie. -/
def newAt (bp bf ah kp ka : Nat) (ff : Int × Int → Option Value) (nf : Nat) : DAt :=
  { bp := bp, bf := bf, kp := kp, ka := ka, ff := ff, nf := nf, sent := [], ap := none, cp := 0, gone := [], ag := none, cg := 0, ans := [], aa := none, ca := 0, hs := [hdn0], ah := some ⟨ah, 0, none⟩, ch := 1 }

theorem good_newHd : GoodHd newHd 6 := ⟨rfl, fun i a h => by simp [newHd] at h, List.Pairwise.nil, fun p h => by simp [newHd] at h, fun p h => by simp [newHd] at h, by simp [newHd], by simp [newHd]⟩

theorem funds_new {own coins : Int} {ff : Int × Int → Option Value} (ho : own = 0 ∨ own = 1) (hf : ∀ u c : Int, (ff (u, c)).getD (.int .u64 0) = .int .u64 (if (0 ≤ u ∧ u ≤ 2) ∧ c = own then coins else 0)) : FundsOk ff (newCh own coins) := by
  intro u c
  rw [hf u c]
  by_cases hu : 0 ≤ u ∧ u ≤ 2
  · have hu' : u = 0 ∨ u = 1 ∨ u = 2 := by omega
    by_cases hc : 0 ≤ c ∧ c ≤ 1
    · have hc' : c = 0 ∨ c = 1 := by omega
      rcases hu' with rfl | rfl | rfl <;> rcases hc' with rfl | rfl <;> rcases ho with rfl | rfl <;> simp [hasAt, newCh, rawCh, Ch.get]
    · have : c ≠ own := by rcases ho with rfl | rfl <;> omega
      rw [if_neg (fun e => this e.2), if_neg (fun e => hc e.2)]
  · rw [if_neg (fun e => hu e.1), if_neg (fun e => hu e.1)]

theorem nil_row (w : World) (e size : Nat) : w.ownsRow 0 e size (.slice none 0 0) 0 [] := ⟨by simp, .inl ⟨rfl, rfl⟩⟩
theorem nil_lab (lab : Nat → Nat) (l : Nat) : labelled lab (.slice none 0 0) l := fun k e => by cases e

theorem devch_new {lab : Nat → Nat} {l : Nat} {w : World} {x : Nat} {pre post : List Value} {own coins : Int} {bp bf ah kp ka nf : Nat} {ff : Int × Int → Option Value} (ho : own = 0 ∨ own = 1)
    (hX : w.heap[x]? = some (.cells (pre ++ dchCells (newCh own coins) newHd (newAt bp bf ah kp ka ff nf) ++ post).toArray tBr (0, 0))) (hlx : lab x ≠ l ∧ lab x ≠ 0)
    (p : w.heap[bp]? = some (.map #[] 0)) (m : MapIs Tryz.prog tHold encH w bf ff nf) (hkp : w.heap[kp]? = some (.map #[] 0)) (hka : w.heap[ka]? = some (.map #[] 0))
    (lm : lab bp = l ∧ lab bf = l ∧ lab kp = l ∧ lab ka = l) (lh : lab ah = l) (ap : (bp ≠ bf ∧ bp ≠ kp ∧ bp ≠ ka) ∧ (bf ≠ kp ∧ bf ≠ ka) ∧ kp ≠ ka)
    (hn : nf ≤ 3) (hf : ∀ u c : Int, (ff (u, c)).getD (.int .u64 0) = .int .u64 (if (0 ≤ u ∧ u ≤ 2) ∧ c = own then coins else 0))
    (r : w.ownsRow 0 tHeader 9 (.slice (some ⟨ah, 0, none⟩) 1 1) 1 (HdN.cells hdn0)) : DevCh lab l w x pre post (newCh own coins) newHd (newAt bp bf ah kp ka ff nf) 6 := by
  refine ⟨hX, hlx, mapIs_made encU tU64 p, m, mapIs_made encU tU64 hkp, mapIs_made encU tU64 hka, lm, ap, nil_row _ _ _, nil_lab _ _, nil_row _ _ _, nil_lab _ _, nil_row _ _ _, nil_lab _ _, by simpa [newAt, DAt.vh] using r, fun k e => ?_, fun y hy => ?_, rfl, funds_new ho hf, ?_, good_newHd⟩
  · simp [newAt, DAt.vh, Value.ownBlock] at e
    rw [← e]
    exact lh
  · simp [newAt] at hy
    subst hy
    exact ⟨⟨nil_row _ _ _, nil_lab _ _⟩, ⟨nil_row _ _ _, nil_lab _ _⟩, nil_row _ _ _, nil_lab _ _⟩
  · refine ⟨good_newHd, by simp [newCh, rawCh], fun p h => by simp [newCh, rawCh, newHd] at h, fun k h => by simp [newAt] at h, fun i h e => ?_, by simp [newCh], by simp [newAt], by simp [newAt], by simp [newAt], by simp [newAt]; omega, ⟨hdn0, rfl, fun k => rfl, rfl⟩, trivial, fun y hy => ?_, fun p h => by simp [newAt] at h, fun y hy p h => ?_⟩
    · cases i with
      | zero => simp [newCh] at e; subst e; exact ⟨rfl, good_newHd⟩
      | succ i => simp [newCh] at e
    · simp [newAt] at hy
      subst hy
      simp
    · simp [newAt] at hy
      subst hy
      simp at h

/-- Labels of what New makes. -/
def newLab (s0 s1 s2 s4 k : Nat) : Nat := if k < s0 then 0 else if k < s1 then 1 else if k < s2 then 2 else if k = s2 then 3 else if k < s4 then 1 else 2

theorem newLab_x {s0 s1 s2 s4 : Nat} (h1 : s0 ≤ s1) (h2 : s1 ≤ s2) : newLab s0 s1 s2 s4 s2 = 3 := by
  unfold newLab
  rw [if_neg (by omega), if_neg (by omega), if_neg (by omega), if_pos rfl]
theorem newLab_1 {s0 s1 s2 s4 k : Nat} (h1 : s0 ≤ k) (h2 : k < s1) : newLab s0 s1 s2 s4 k = 1 := by
  unfold newLab
  rw [if_neg (by omega), if_pos (by omega)]
theorem newLab_2 {s0 s1 s2 s4 k : Nat} (h0 : s0 ≤ s1) (h1 : s1 ≤ k) (h2 : k < s2) : newLab s0 s1 s2 s4 k = 2 := by
  unfold newLab
  rw [if_neg (by omega), if_neg (by omega), if_pos (by omega)]
theorem newLab_3 {s0 s1 s2 s4 k : Nat} (h0 : s0 ≤ s1) (h1 : s1 ≤ s2) (h2 : s2 < k) (h3 : k < s4) : newLab s0 s1 s2 s4 k = 1 := by
  unfold newLab
  rw [if_neg (by omega), if_neg (by omega), if_neg (by omega), if_neg (by omega), if_pos h3]
theorem newLab_4 {s0 s1 s2 s4 k : Nat} (h0 : s0 ≤ s1) (h1 : s1 ≤ s2) (h2 : s2 < k) (h3 : s4 ≤ k) : newLab s0 s1 s2 s4 k = 2 := by
  unfold newLab
  rw [if_neg (by omega), if_neg (by omega), if_neg (by omega), if_neg (by omega), if_neg (by omega)]

/-- New has made a bridge. -/
def BrNew (w : World) (coins : Int) (e : Ending) (w' : World) : Prop :=
  ∃ x lab a0 a1, e = .returned (.tuple #[.pointer (some ⟨x, 0, none⟩), .int .i64 0]) ∧ Br lab w' x (newMod coins) a0 a1 newHd newHd 6 ∧ (∀ k, k < w.heap.size → lab k = 0) ∧ w.heap.size ≤ x ∧ w.grownBy w' none

/-- The same, and where its headers lie. -/
def BrNewX (w : World) (coins : Int) (e : Ending) (w' : World) : Prop :=
  ∃ x lab a0 a1, e = .returned (.tuple #[.pointer (some ⟨x, 0, none⟩), .int .i64 0]) ∧ Br lab w' x (newMod coins) a0 a1 newHd newHd 6 ∧ (∀ k, k < w.heap.size → lab k = 0) ∧ (∀ k, lab k ≤ 3) ∧ w.heap.size ≤ x ∧ w.grownBy w' none ∧ a0.hs = [hdn0] ∧ a1.hs = [hdn0]

theorem BrNewX.weak {w : World} {coins : Int} {e : Ending} {w' : World} (h : BrNewX w coins e w') : BrNew w coins e w' := by
  obtain ⟨x, lab, a0, a1, h1, h2, h3, _, h4, h5, _⟩ := h
  exact ⟨x, lab, a0, a1, h1, h2, h3, h4, h5⟩

theorem newLab_le (s0 s1 s2 s4 k : Nat) : newLab s0 s1 s2 s4 k ≤ 3 := by
  unfold newLab
  repeat' split
  all_goals omega

abbrev brEnd (bp bf ah kp ka bp' bf' ah' kp' ka' : Nat) : Array Value := #[.bool true, .int .u64 1, .int .u64 1, .map (some bp), .slice none 0 0, .slice none 0 0, .slice none 0 0, .int .i64 0, .int .u64 0, .int .u64 0, .map (some bf), .int .u64 0, .int .u64 0, .slice (some ⟨ah, 0, none⟩) 1 1, .int .u64 0, .int .u64 0, .bool true, .int .u64 1, .int .i64 0, .int .i64 0, .map (some kp), .map (some ka), .bool true, .int .u64 1, .int .u64 1, .map (some bp'), .slice none 0 0, .slice none 0 0, .slice none 0 0, .int .i64 1, .int .u64 0, .int .u64 0, .map (some bf'), .int .u64 0, .int .u64 0, .slice (some ⟨ah', 0, none⟩) 1 1, .int .u64 0, .int .u64 0, .bool true, .int .u64 1, .int .i64 0, .int .i64 0, .map (some kp'), .map (some ka'), .int .i64 0]

theorem brEnd_is (coins : Int) (bp bf ah kp ka bp' bf' ah' kp' ka' nf nf' : Nat) (ff ff' : Int × Int → Option Value) :
    brEnd bp bf ah kp ka bp' bf' ah' kp' ka' = (dchCells (newCh 0 coins) newHd (newAt bp bf ah kp ka ff nf) ++ (dchCells (newCh 1 coins) newHd (newAt bp' bf' ah' kp' ka' ff' nf') ++ [Value.int .i64 0])).toArray := by
  simp only [brEnd, dchCells, newAt, newCh, rawCh, newHd, List.cons_append, List.nil_append, List.length_nil]
  rfl

theorem br_new {w w1 w2 w4 w' : World} {coins : Int} {bp bf ah kp ka nf bp' bf' ah' kp' ka' nf' : Nat} {ff ff' : Int × Int → Option Value}
    (hX : w'.heap[w2.heap.size]? = some (.cells (brEnd bp bf ah kp ka bp' bf' ah' kp' ka') tBr (0, 0)))
    (p : w'.heap[bp]? = some (.map #[] 0)) (m : MapIs Tryz.prog tHold encH w' bf ff nf) (hkp : w'.heap[kp]? = some (.map #[] 0)) (hka : w'.heap[ka]? = some (.map #[] 0))
    (hn : nf ≤ 3) (hf : ∀ u c : Int, (ff (u, c)).getD (.int .u64 0) = .int .u64 (if (0 ≤ u ∧ u ≤ 2) ∧ c = 0 then coins else 0))
    (r : w'.ownsRow 0 tHeader 9 (.slice (some ⟨ah, 0, none⟩) 1 1) 1 (HdN.cells hdn0))
    (p' : w'.heap[bp']? = some (.map #[] 0)) (m' : MapIs Tryz.prog tHold encH w' bf' ff' nf') (hkp' : w'.heap[kp']? = some (.map #[] 0)) (hka' : w'.heap[ka']? = some (.map #[] 0))
    (hn' : nf' ≤ 3) (hf' : ∀ u c : Int, (ff' (u, c)).getD (.int .u64 0) = .int .u64 (if (0 ≤ u ∧ u ≤ 2) ∧ c = 1 then coins else 0))
    (r' : w'.ownsRow 0 tHeader 9 (.slice (some ⟨ah', 0, none⟩) 1 1) 1 (HdN.cells hdn0))
    (o1 : w.heap.size ≤ bp ∧ w.heap.size ≤ bf ∧ w.heap.size ≤ ah ∧ bp ≠ bf) (o2 : bp < w1.heap.size ∧ bf < w1.heap.size ∧ ah < w1.heap.size) (s01 : w.heap.size ≤ w1.heap.size)
    (o1' : w1.heap.size ≤ bp' ∧ w1.heap.size ≤ bf' ∧ w1.heap.size ≤ ah' ∧ bp' ≠ bf') (o2' : bp' < w2.heap.size ∧ bf' < w2.heap.size ∧ ah' < w2.heap.size) (s12 : w1.heap.size ≤ w2.heap.size)
    (o3 : w2.heap.size < kp ∧ w2.heap.size < ka ∧ kp ≠ ka ∧ kp < w4.heap.size ∧ ka < w4.heap.size) (o3' : w4.heap.size ≤ kp' ∧ w4.heap.size ≤ ka' ∧ kp' ≠ ka')
    (g : w.grownBy w' none) : BrNewX w coins (.returned (.tuple #[.pointer (some ⟨w2.heap.size, 0, none⟩), .int .i64 0])) w' := by
  have e := brEnd_is coins bp bf ah kp ka bp' bf' ah' kp' ka' nf nf' ff ff'
  rw [e] at hX
  have lx : newLab w.heap.size w1.heap.size w2.heap.size w4.heap.size w2.heap.size = 3 := newLab_x s01 s12
  have l1 : ∀ k, w.heap.size ≤ k → k < w1.heap.size → newLab w.heap.size w1.heap.size w2.heap.size w4.heap.size k = 1 := fun k h1 h2 => newLab_1 h1 h2
  have l2 : ∀ k, w1.heap.size ≤ k → k < w2.heap.size → newLab w.heap.size w1.heap.size w2.heap.size w4.heap.size k = 2 := fun k h1 h2 => newLab_2 s01 h1 h2
  have l3 : ∀ k, w2.heap.size < k → k < w4.heap.size → newLab w.heap.size w1.heap.size w2.heap.size w4.heap.size k = 1 := fun k h1 h2 => newLab_3 s01 s12 h1 h2
  have l4 : ∀ k, w2.heap.size < k → w4.heap.size ≤ k → newLab w.heap.size w1.heap.size w2.heap.size w4.heap.size k = 2 := fun k h1 h2 => newLab_4 s01 s12 h1 h2
  refine ⟨w2.heap.size, newLab w.heap.size w1.heap.size w2.heap.size w4.heap.size, newAt bp bf ah kp ka ff nf, newAt bp' bf' ah' kp' ka' ff' nf', rfl, ⟨?_, ?_, ⟨hdn0, rfl, rfl⟩, ⟨hdn0, rfl, rfl⟩, rfl, rfl, lx⟩, fun k hk => by simp [newLab, hk], fun k => newLab_le _ _ _ _ k, by omega, g, rfl, rfl⟩
  · exact devch_new (.inl rfl) (by simpa [newMod] using hX) (by rw [lx]; decide) p m hkp hka ⟨l1 _ o1.1 o2.1, l1 _ o1.2.1 o2.2.1, l3 _ o3.1 o3.2.2.2.1, l3 _ o3.2.1 o3.2.2.2.2⟩ (l1 _ o1.2.2.1 o2.2.2) ⟨⟨o1.2.2.2, by omega, by omega⟩, ⟨by omega, by omega⟩, o3.2.2.1⟩ hn hf r
  · exact devch_new (.inr rfl) (by simpa [newMod] using hX) (by rw [lx]; decide) p' m' hkp' hka' ⟨l2 _ o1'.1 o2'.1, l2 _ o1'.2.1 o2'.2.1, l4 _ (by omega) o3'.1, l4 _ (by omega) o3'.2.1⟩ (l2 _ o1'.2.2.1 o2'.2.2) ⟨⟨o1'.2.2.2, by omega, by omega⟩, ⟨by omega, by omega⟩, o3'.2.2⟩ hn' hf' r'

end Go.Proofs.YtmfdhcnnhlchbaaGreat

namespace Go.Proofs.YtmfdhcnnhlchbaaGreat
open Go.RowKit Go.Maps

section
variable {w : World}

abbrev brMid (bp bf ah kp ka bp' bf' ah' : Nat) : Array Value := #[.bool true, .int .u64 1, .int .u64 1, .map (some bp), .slice none 0 0, .slice none 0 0, .slice none 0 0, .int .i64 0, .int .u64 0, .int .u64 0, .map (some bf), .int .u64 0, .int .u64 0, .slice (some ⟨ah, 0, none⟩) 1 1, .int .u64 0, .int .u64 0, .bool true, .int .u64 1, .int .i64 0, .int .i64 0, .map (some kp), .map (some ka), .bool true, .int .u64 1, .int .u64 1, .map (some bp'), .slice none 0 0, .slice none 0 0, .slice none 0 0, .int .i64 1, .int .u64 0, .int .u64 0, .map (some bf'), .int .u64 0, .int .u64 0, .slice (some ⟨ah', 0, none⟩) 1 1, .int .u64 0, .int .u64 0, .bool false, .int .u64 0, .int .i64 0, .int .i64 0, .map none, .map none, .int .i64 0]

theorem view_cells1 {W : World} {x bp bf ah kp ka bp' bf' ah' : Nat} (hX : W.heap[x]? = some (.cells (brMid bp bf ah kp ka bp' bf' ah') tBr (0, 0))) (hA : W.heap[ah]? = some (.cells #[Value.int .u64 0, Value.int .u64 0, Value.bool true, Value.int .u64 1, Value.int .i64 0, Value.int .i64 0, Value.slice none 0 0, Value.slice none 0 0, Value.slice none 0 0] tHeader (0, 0))) :
    W.cell? ⟨x, 13, none⟩ = some (.slice (some ⟨ah, 0, none⟩) 1 1) ∧ W.cell? ⟨ah, 0, none⟩ = some (.int .u64 0) ∧ W.cell? ⟨ah, 1, none⟩ = some (.int .u64 0) ∧ W.cell? ⟨ah, 2, none⟩ = some (.bool true) ∧ W.cell? ⟨ah, 3, none⟩ = some (.int .u64 1) ∧ W.cell? ⟨ah, 4, none⟩ = some (.int .i64 0) ∧ W.cell? ⟨ah, 5, none⟩ = some (.int .i64 0) ∧ W.cell? ⟨ah, 6, none⟩ = some (.slice none 0 0) ∧ W.cell? ⟨ah, 7, none⟩ = some (.slice none 0 0) ∧ W.cell? ⟨ah, 8, none⟩ = some (.slice none 0 0) := by
  refine ⟨?_, ?_, ?_, ?_, ?_, ?_, ?_, ?_, ?_, ?_⟩
  all_goals first
    | (simp [World.cell?, hX]; done)
    | (simp [World.cell?, hA]; done)

theorem known_cells1 {W : World} {x bp bf ah kp ka bp' bf' ah' : Nat} (hX : W.heap[x]? = some (.cells (brMid bp bf ah kp ka bp' bf' ah') tBr (0, 0))) :
    W.cell? ⟨x, 36, none⟩ = some (.int .u64 0) ∧ W.cell? ⟨x, 37, none⟩ = some (.int .u64 0) ∧ W.cell? ⟨x, 38, none⟩ = some (.bool false) ∧ W.cell? ⟨x, 39, none⟩ = some (.int .u64 0) ∧ W.cell? ⟨x, 40, none⟩ = some (.int .i64 0) ∧ W.cell? ⟨x, 41, none⟩ = some (.int .i64 0) ∧ W.cell? ⟨x, 42, none⟩ = some (.map none) ∧ W.cell? ⟨x, 43, none⟩ = some (.map none) ∧ (∀ k, W.frozen? ⟨x, k, none⟩ = false) := by
  refine ⟨?_, ?_, ?_, ?_, ?_, ?_, ?_, ?_, ?_⟩
  all_goals first
    | (intro k; simp [World.frozen?, hX])
    | simp [World.cell?, hX]


theorem mid_set {W : World} {x bp bf ah bp' bf' ah' kp ka : Nat} (hX : W.heap[x]? = some (.cells (brRaw bp bf ah bp' bf' ah') tBr (0, 0))) :
    ((((((((W.setCell ⟨x, 14, none⟩ (Value.int IntKind.u64 newHd.height)).setCell ⟨x, 15, none⟩ (Value.int IntKind.u64 newHd.time)).setCell ⟨x, 16, none⟩ (Value.bool newHd.isOpen)).setCell ⟨x, 17, none⟩ (Value.int IntKind.u64 newHd.nextRecv)).setCell ⟨x, 18, none⟩ (Value.int IntKind.i64 newHd.packets.length)).setCell ⟨x, 19, none⟩ (Value.int IntKind.i64 newHd.answers.length)).setCell ⟨x, 20, none⟩ (Value.map (some kp))).setCell ⟨x, 21, none⟩ (Value.map (some ka))).heap[x]? = some (.cells (brMid bp bf ah kp ka bp' bf' ah') tBr (0, 0)) := by
  refine (setCell_same (setCell_same (setCell_same (setCell_same (setCell_same (setCell_same (setCell_same (setCell_same hX _ _) _ _) _ _) _ _) _ _) _ _) _ _) _ _).trans ?_
  simp only [List.setIfInBounds_toArray, List.set_cons_succ, List.set_cons_zero, newHd, List.length_nil]
  rfl

theorem end_set {W : World} {x bp bf ah bp' bf' ah' kp ka kp' ka' : Nat} (hX : W.heap[x]? = some (.cells (brMid bp bf ah kp ka bp' bf' ah') tBr (0, 0))) :
    ((((((((W.setCell ⟨x, 36, none⟩ (Value.int IntKind.u64 newHd.height)).setCell ⟨x, 37, none⟩ (Value.int IntKind.u64 newHd.time)).setCell ⟨x, 38, none⟩ (Value.bool newHd.isOpen)).setCell ⟨x, 39, none⟩ (Value.int IntKind.u64 newHd.nextRecv)).setCell ⟨x, 40, none⟩ (Value.int IntKind.i64 newHd.packets.length)).setCell ⟨x, 41, none⟩ (Value.int IntKind.i64 newHd.answers.length)).setCell ⟨x, 42, none⟩ (Value.map (some kp'))).setCell ⟨x, 43, none⟩ (Value.map (some ka'))).heap[x]? = some (.cells (brEnd bp bf ah kp ka bp' bf' ah' kp' ka') tBr (0, 0)) := by
  refine (setCell_same (setCell_same (setCell_same (setCell_same (setCell_same (setCell_same (setCell_same (setCell_same hX _ _) _ _) _ _) _ _) _ _) _ _) _ _) _ _).trans ?_
  simp only [List.setIfInBounds_toArray, List.set_cons_succ, List.set_cons_zero, newHd, List.length_nil]
  rfl

set_option maxRecDepth 100000 in
set_option maxHeartbeats 1600000 in
theorem new_okX {coins : Int} (h0 : 0 ≤ coins) (hc : ¬ 1152921504606846976 < coins) : Calls Tryz.prog 18 #[.int .u64 coins] w (BrNewX w coins) := by
  go_enter Tryz.func18, Tryz.ntmps18
  go_wp2_with fail
  refine (newChain_any h0 (by omega)).mono ?_
  rintro e w1 ⟨bp, bf, ah, nf, ff, rfl, p1, m1, n1, f1, r1, z1, y1, g1⟩
  go_wp2_with fail
  refine (newChain_any h0 (by omega)).mono ?_
  rintro e w2 ⟨bp', bf', ah', nf', ff', rfl, p2, m2, n2, f2, r2, z2, y2, g2⟩
  go_wp2_with fail
  obtain ⟨w3, hw3⟩ : ∃ w3 : World, w3 = w2.alloc (.cells (brRaw bp bf ah bp' bf' ah') tBr) := ⟨_, rfl⟩
  have g3 : w2.grownBy w3 none := by rw [hw3]; exact World.grownBy_alloc _ _ _
  have hX3 : w3.heap[w2.heap.size]? = some (.cells (brRaw bp bf ah bp' bf' ah') tBr (0, 0)) := by rw [hw3]; exact heap_alloc_new w2 _
  rw [← hw3]
  clear hw3
  have c13 : w3.cell? ⟨w2.heap.size, 13, none⟩ = some (.slice (some ⟨ah, 0, none⟩) 1 1) := by simp [World.cell?, hX3]
  have c35 : w3.cell? ⟨w2.heap.size, 35, none⟩ = some (.slice (some ⟨ah', 0, none⟩) 1 1) := by simp [World.cell?, hX3]
  have c14 : w3.cell? ⟨w2.heap.size, 14, none⟩ = some (.int .u64 0) := by simp [World.cell?, hX3]
  have c15 : w3.cell? ⟨w2.heap.size, 15, none⟩ = some (.int .u64 0) := by simp [World.cell?, hX3]
  have c16 : w3.cell? ⟨w2.heap.size, 16, none⟩ = some (.bool false) := by simp [World.cell?, hX3]
  have c17 : w3.cell? ⟨w2.heap.size, 17, none⟩ = some (.int .u64 0) := by simp [World.cell?, hX3]
  have c18 : w3.cell? ⟨w2.heap.size, 18, none⟩ = some (.int .i64 0) := by simp [World.cell?, hX3]
  have c19 : w3.cell? ⟨w2.heap.size, 19, none⟩ = some (.int .i64 0) := by simp [World.cell?, hX3]
  have c20 : w3.cell? ⟨w2.heap.size, 20, none⟩ = some (.map none) := by simp [World.cell?, hX3]
  have c21 : w3.cell? ⟨w2.heap.size, 21, none⟩ = some (.map none) := by simp [World.cell?, hX3]
  have c36 : w3.cell? ⟨w2.heap.size, 36, none⟩ = some (.int .u64 0) := by simp [World.cell?, hX3]
  have c37 : w3.cell? ⟨w2.heap.size, 37, none⟩ = some (.int .u64 0) := by simp [World.cell?, hX3]
  have c38 : w3.cell? ⟨w2.heap.size, 38, none⟩ = some (.bool false) := by simp [World.cell?, hX3]
  have c39 : w3.cell? ⟨w2.heap.size, 39, none⟩ = some (.int .u64 0) := by simp [World.cell?, hX3]
  have c40 : w3.cell? ⟨w2.heap.size, 40, none⟩ = some (.int .i64 0) := by simp [World.cell?, hX3]
  have c41 : w3.cell? ⟨w2.heap.size, 41, none⟩ = some (.int .i64 0) := by simp [World.cell?, hX3]
  have c42 : w3.cell? ⟨w2.heap.size, 42, none⟩ = some (.map none) := by simp [World.cell?, hX3]
  have c43 : w3.cell? ⟨w2.heap.size, 43, none⟩ = some (.map none) := by simp [World.cell?, hX3]
  have cf : ∀ k, w3.frozen? ⟨w2.heap.size, k, none⟩ = false := fun k => by simp [World.frozen?, hX3]
  have zx := blk_lt hX3
  have hA0 := ((g3.block _ (by have := blk_lt y1; have := g2.size; omega) (by simp)).trans (g2.block _ (blk_lt y1) (by simp))).trans y1
  have hA1 := (g3.block _ (blk_lt y2) (by simp)).trans y2
  have e0 : w3.cell? ⟨ah', 0, none⟩ = some (.int .u64 0) := by simp [World.cell?, hA1]
  have e1 : w3.cell? ⟨ah', 1, none⟩ = some (.int .u64 0) := by simp [World.cell?, hA1]
  have e2 : w3.cell? ⟨ah', 2, none⟩ = some (.bool true) := by simp [World.cell?, hA1]
  have e3 : w3.cell? ⟨ah', 3, none⟩ = some (.int .u64 1) := by simp [World.cell?, hA1]
  have e4 : w3.cell? ⟨ah', 4, none⟩ = some (.int .i64 0) := by simp [World.cell?, hA1]
  have e5 : w3.cell? ⟨ah', 5, none⟩ = some (.int .i64 0) := by simp [World.cell?, hA1]
  have e6 : w3.cell? ⟨ah', 6, none⟩ = some (.slice none 0 0) := by simp [World.cell?, hA1]
  have e7 : w3.cell? ⟨ah', 7, none⟩ = some (.slice none 0 0) := by simp [World.cell?, hA1]
  have e8 : w3.cell? ⟨ah', 8, none⟩ = some (.slice none 0 0) := by simp [World.cell?, hA1]
  have hv := fun W => newView0 (w := W)
  have hwz : IntKind.i64.wrap 1 = 1 := by decide
  have hne : ah' ≠ w2.heap.size := by have := blk_lt y2; omega
  have hnf : ¬ ah' = w2.heap.size := hne
  have bx : ∀ W, w3.grownBy W none → W.heap[w2.heap.size]? = w3.heap[w2.heap.size]? := fun W g => g.block _ zx (by simp)
  have bh : ∀ W, w3.grownBy W none → W.heap[ah']? = w3.heap[ah']? := fun W g => g.block _ (blk_lt hA1) (by simp)
  refine wp_loop_rounds 3 ?_
  rw [rounds_succ]
  go_wp2_with fail
  go_region_held3 (fun w' => w'.cell? ⟨w2.heap.size, 35, none⟩ = some (.slice (some ⟨ah', 0, none⟩) 1 1) ∧ w'.cell? ⟨ah', 0, none⟩ = some (.int .u64 0) ∧ w'.cell? ⟨ah', 1, none⟩ = some (.int .u64 0) ∧ w'.cell? ⟨ah', 2, none⟩ = some (.bool true) ∧ w'.cell? ⟨ah', 3, none⟩ = some (.int .u64 1) ∧ w'.cell? ⟨ah', 4, none⟩ = some (.int .i64 0) ∧ w'.cell? ⟨ah', 5, none⟩ = some (.int .i64 0) ∧ w'.cell? ⟨ah', 6, none⟩ = some (.slice none 0 0) ∧ w'.cell? ⟨ah', 7, none⟩ = some (.slice none 0 0) ∧ w'.cell? ⟨ah', 8, none⟩ = some (.slice none 0 0)) (first | go_keep | (refine ⟨?_, ?_, ?_, ?_, ?_, ?_, ?_, ?_, ?_, ?_⟩ <;> first | (rw [cell_far hne, cell_far hne, cell_far hne, cell_far hne, cell_far hne, cell_far hne, cell_far hne, cell_far hne]; assumption) | (rw [cell_off (by decide), cell_off (by decide), cell_off (by decide), cell_off (by decide), cell_off (by decide), cell_off (by decide), cell_off (by decide), cell_off (by decide)]; assumption)))
    (first | (go_at_call 32; refine (hv _).mono ?_; rintro e w4 ⟨kp, ka, rfl, k1, k2, k3, k4, k5, g4⟩; have hX4 := (bx w4 (grown_trans (grown_drew (grown_refl _ _)) g4 (fun k e => by cases e))).trans hX3; have hA4 := (bh w4 (grown_trans (grown_drew (grown_refl _ _)) g4 (fun k e => by cases e))).trans hA1; obtain ⟨d35, a0, a1, a2, a3, a4, a5, a6, a7, a8⟩ := view_cells hX4 hA4; obtain ⟨o14, o15, o16, o17, o18, o19, o20, o21, o36, o37, o38, o39, o40, o41, o42, o43, of⟩ := known_cells hX4))
  obtain ⟨w5, hw5⟩ : ∃ w5 : World, w5 = ((((((((w4.setCell ⟨w2.heap.size, 14, none⟩ (Value.int IntKind.u64 newHd.height)).setCell ⟨w2.heap.size, 15, none⟩ (Value.int IntKind.u64 newHd.time)).setCell ⟨w2.heap.size, 16, none⟩ (Value.bool newHd.isOpen)).setCell ⟨w2.heap.size, 17, none⟩ (Value.int IntKind.u64 newHd.nextRecv)).setCell ⟨w2.heap.size, 18, none⟩ (Value.int IntKind.i64 newHd.packets.length)).setCell ⟨w2.heap.size, 19, none⟩ (Value.int IntKind.i64 newHd.answers.length)).setCell ⟨w2.heap.size, 20, none⟩ (Value.map (some kp))).setCell ⟨w2.heap.size, 21, none⟩ (Value.map (some ka))) := ⟨_, rfl⟩
  have far5 : ∀ k, k ≠ w2.heap.size → w5.heap[k]? = w4.heap[k]? := fun k hk => by rw [hw5, setCell_other _ _ _ hk, setCell_other _ _ _ hk, setCell_other _ _ _ hk, setCell_other _ _ _ hk, setCell_other _ _ _ hk, setCell_other _ _ _ hk, setCell_other _ _ _ hk, setCell_other _ _ _ hk]
  have hX5 : w5.heap[w2.heap.size]? = some (.cells (brMid bp bf ah kp ka bp' bf' ah') tBr (0, 0)) := by
    rw [hw5]
    exact mid_set hX4
  have g5 : w3.grownBy w5 (some w2.heap.size) := by
    rw [hw5]
    refine grown_set ?_ ⟨w2.heap.size, 21, none⟩ _ (.inl rfl)
    refine grown_set ?_ ⟨w2.heap.size, 20, none⟩ _ (.inl rfl)
    refine grown_set ?_ ⟨w2.heap.size, 19, none⟩ _ (.inl rfl)
    refine grown_set ?_ ⟨w2.heap.size, 18, none⟩ _ (.inl rfl)
    refine grown_set ?_ ⟨w2.heap.size, 17, none⟩ _ (.inl rfl)
    refine grown_set ?_ ⟨w2.heap.size, 16, none⟩ _ (.inl rfl)
    refine grown_set ?_ ⟨w2.heap.size, 15, none⟩ _ (.inl rfl)
    refine grown_set ?_ ⟨w2.heap.size, 14, none⟩ _ (.inl rfl)
    exact grown_none (grown_trans (grown_drew (grown_refl _ _)) g4 (fun k e => by cases e)) _
  rw [← hw5]
  clear hw5 d35 a0 a1 a2 a3 a4 a5 a6 a7 a8 o14 o15 o16 o17 o18 o19 o20 o21 o36 o37 o38 o39 o40 o41 o42 o43 of e0 e1 e2 e3 e4 e5 e6 e7 e8 c13 c35 c14 c15 c16 c17 c18 c19 c20 c21 c36 c37 c38 c39 c40 c41 c42 c43 cf
  have hny : ah ≠ w2.heap.size := by have := blk_lt y1; have := g2.size; omega
  have hA5 := (g5.block _ (blk_lt hA0) (by simpa using hny)).trans hA0
  obtain ⟨b13, e0, e1, e2, e3, e4, e5, e6, e7, e8⟩ := view_cells1 hX5 hA5
  obtain ⟨c36, c37, c38, c39, c40, c41, c42, c43, cf⟩ := known_cells1 hX5
  have hwo : IntKind.i64.wrap 0 = 0 := by decide
  have zx5 := blk_lt hX5
  have bx5 : ∀ W, w5.grownBy W none → W.heap[w2.heap.size]? = w5.heap[w2.heap.size]? := fun W g => g.block _ zx5 (by simp)
  have bh5 : ∀ W, w5.grownBy W none → W.heap[ah]? = w5.heap[ah]? := fun W g => g.block _ (blk_lt hA5) (by simp)
  go_wp2_with fail
  rw [rounds_succ]
  go_wp2_with fail
  go_region_held3 (fun w' => w'.cell? ⟨w2.heap.size, 13, none⟩ = some (.slice (some ⟨ah, 0, none⟩) 1 1) ∧ w'.cell? ⟨ah, 0, none⟩ = some (.int .u64 0) ∧ w'.cell? ⟨ah, 1, none⟩ = some (.int .u64 0) ∧ w'.cell? ⟨ah, 2, none⟩ = some (.bool true) ∧ w'.cell? ⟨ah, 3, none⟩ = some (.int .u64 1) ∧ w'.cell? ⟨ah, 4, none⟩ = some (.int .i64 0) ∧ w'.cell? ⟨ah, 5, none⟩ = some (.int .i64 0) ∧ w'.cell? ⟨ah, 6, none⟩ = some (.slice none 0 0) ∧ w'.cell? ⟨ah, 7, none⟩ = some (.slice none 0 0) ∧ w'.cell? ⟨ah, 8, none⟩ = some (.slice none 0 0)) (first | go_keep | (refine ⟨?_, ?_, ?_, ?_, ?_, ?_, ?_, ?_, ?_, ?_⟩ <;> first | (rw [cell_far hny, cell_far hny, cell_far hny, cell_far hny, cell_far hny, cell_far hny, cell_far hny, cell_far hny]; assumption) | (rw [cell_off (by decide), cell_off (by decide), cell_off (by decide), cell_off (by decide), cell_off (by decide), cell_off (by decide), cell_off (by decide), cell_off (by decide)]; assumption)))
    (first | (go_at_call 32; refine (hv _).mono ?_; rintro e w6 ⟨kp', ka', rfl, l1, l2, l3, l4, l5, g6⟩; have hX6 := (bx5 w6 (grown_trans (grown_drew (grown_refl _ _)) g6 (fun k e => by cases e))).trans hX5; have hA6 := (bh5 w6 (grown_trans (grown_drew (grown_refl _ _)) g6 (fun k e => by cases e))).trans hA5; obtain ⟨d13, a0, a1, a2, a3, a4, a5, a6, a7, a8⟩ := view_cells1 hX6 hA6; obtain ⟨o36, o37, o38, o39, o40, o41, o42, o43, of⟩ := known_cells1 hX6))
  obtain ⟨w7, hw7⟩ : ∃ w7 : World, w7 = ((((((((w6.setCell ⟨w2.heap.size, 36, none⟩ (Value.int IntKind.u64 newHd.height)).setCell ⟨w2.heap.size, 37, none⟩ (Value.int IntKind.u64 newHd.time)).setCell ⟨w2.heap.size, 38, none⟩ (Value.bool newHd.isOpen)).setCell ⟨w2.heap.size, 39, none⟩ (Value.int IntKind.u64 newHd.nextRecv)).setCell ⟨w2.heap.size, 40, none⟩ (Value.int IntKind.i64 newHd.packets.length)).setCell ⟨w2.heap.size, 41, none⟩ (Value.int IntKind.i64 newHd.answers.length)).setCell ⟨w2.heap.size, 42, none⟩ (Value.map (some kp'))).setCell ⟨w2.heap.size, 43, none⟩ (Value.map (some ka'))) := ⟨_, rfl⟩
  have far7 : ∀ k, k ≠ w2.heap.size → w7.heap[k]? = w6.heap[k]? := fun k hk => by rw [hw7, setCell_other _ _ _ hk, setCell_other _ _ _ hk, setCell_other _ _ _ hk, setCell_other _ _ _ hk, setCell_other _ _ _ hk, setCell_other _ _ _ hk, setCell_other _ _ _ hk, setCell_other _ _ _ hk]
  have hX7 : w7.heap[w2.heap.size]? = some (.cells (brEnd bp bf ah kp ka bp' bf' ah' kp' ka') tBr (0, 0)) := by
    rw [hw7]
    exact end_set hX6
  have g7 : w5.grownBy w7 (some w2.heap.size) := by
    rw [hw7]
    refine grown_set ?_ ⟨w2.heap.size, 43, none⟩ _ (.inl rfl)
    refine grown_set ?_ ⟨w2.heap.size, 42, none⟩ _ (.inl rfl)
    refine grown_set ?_ ⟨w2.heap.size, 41, none⟩ _ (.inl rfl)
    refine grown_set ?_ ⟨w2.heap.size, 40, none⟩ _ (.inl rfl)
    refine grown_set ?_ ⟨w2.heap.size, 39, none⟩ _ (.inl rfl)
    refine grown_set ?_ ⟨w2.heap.size, 38, none⟩ _ (.inl rfl)
    refine grown_set ?_ ⟨w2.heap.size, 37, none⟩ _ (.inl rfl)
    refine grown_set ?_ ⟨w2.heap.size, 36, none⟩ _ (.inl rfl)
    exact grown_none (grown_trans (grown_drew (grown_refl _ _)) g6 (fun k e => by cases e)) _
  rw [← hw7]
  clear hw7 d13 a0 a1 a2 a3 a4 a5 a6 a7 a8 o36 o37 o38 o39 o40 o41 o42 o43 of e0 e1 e2 e3 e4 e5 e6 e7 e8 b13 c36 c37 c38 c39 c40 c41 c42 c43 cf
  go_wp2_with fail
  rw [rounds_succ]
  go_wp2_with fail
  have q1 := g1.size
  have q2 := g2.size
  have q3 := g3.size
  have q5 := g5.size
  have k3' : w3.heap.size ≤ kp := k3
  have k4' : w3.heap.size ≤ ka := k4
  have l3' : w5.heap.size ≤ kp' := l3
  have l4' : w5.heap.size ≤ ka' := l4
  have keep : ∀ k, k < w2.heap.size → w7.heap[k]? = w2.heap[k]? := fun k hk => ((g7.block k (by omega) (by simp only [ne_eq, Option.some.injEq]; omega)).trans (g5.block k (by omega) (by simp only [ne_eq, Option.some.injEq]; omega))).trans (g3.block k hk (by simp))
  have keep1 : ∀ k, k < w1.heap.size → w7.heap[k]? = w1.heap[k]? := fun k hk => (keep k (by omega)).trans (g2.block k hk (by simp))
  have v5 : w5.heap[kp]? = some (.map #[] 0) := (far5 kp (by omega)).trans k1
  have v5' : w5.heap[ka]? = some (.map #[] 0) := (far5 ka (by omega)).trans k2
  have gw : w.grownBy w7 none := grown_trans (grown_trans (grown_trans (grown_trans g1 g2 (fun k e => by cases e)) g3 (fun k e => by cases e)) g5 (fun k e => by cases e; exact .inr (by omega))) g7 (fun k e => by cases e; exact .inr (by omega))
  go_ret2
  exact br_new (w := w) (w1 := w1) (w2 := w2) (w4 := w5) hX7 ((keep1 _ (blk_lt p1)).trans p1) (m1.keep (keep1 _ m1.lt)) ((g7.block _ (blk_lt v5) (by simp only [ne_eq, Option.some.injEq]; omega)).trans v5) ((g7.block _ (blk_lt v5') (by simp only [ne_eq, Option.some.injEq]; omega)).trans v5') n1 f1 (owns_keep r1 fun k e => keep1 k (owns_lt r1 e))
    ((keep _ (blk_lt p2)).trans p2) (m2.keep (keep _ m2.lt)) ((far7 _ (by omega)).trans l1) ((far7 _ (by omega)).trans l2) n2 f2 (owns_keep r2 fun k e => keep k (owns_lt r2 e))
    z1 ⟨blk_lt p1, m1.lt, blk_lt y1⟩ q1 z2 ⟨blk_lt p2, m2.lt, blk_lt y2⟩ q2 ⟨by omega, by omega, k5, blk_lt v5, blk_lt v5'⟩ ⟨l3', l4', l5⟩ gw

theorem new_ok {coins : Int} (h0 : 0 ≤ coins) (hc : ¬ 1152921504606846976 < coins) : Calls Tryz.prog 18 #[.int .u64 coins] w (BrNew w coins) := (new_okX h0 hc).mono fun _ _ h => h.weak

end

end Go.Proofs.YtmfdhcnnhlchbaaGreat
