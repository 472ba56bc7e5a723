import Derived.Test.YtmfdhcnnhlchbaaGreatC29
import Derived.Test.YtmfdhcnnhlchbaaGreatC30
import Derived.Deep.RegionHeld3
namespace Go.Proofs.YtmfdhcnnhlchbaaGreat
open Go.RowKit Go.Maps

section
variable {lab : Nat → Nat} {l : Nat} {w : World} {x q : Nat} {pre post : List Value} {S : Ch} {K : Hd} {a : DAt} {B : Nat}

abbrev DAt.empty (a : DAt) : DAt := { a with sent := [], gone := [], ans := [] }

/-- What the news, handed on, have left. -/
def Handed (w : World) (x : Nat) (pre post : List Value) (S : Ch) (K : Hd) (a : DAt) (e : Ending) (w' : World) : Prop :=
  ∃ a1 k1 a2 k2 a3 k3, e = .returned (.agg #[.slice a1 a.sent.length k1, .slice a2 a.gone.length k2, .slice a3 a.ans.length k3]) ∧
    (w'.ownsRow 0 tPk 7 (.slice a1 a.sent.length k1) a.sent.length (a.sent.flatMap Pk.cells) ∧ ∀ k, (Value.slice a1 a.sent.length k1).ownBlock = some k → w.heap.size ≤ k) ∧
    (w'.ownsRow 0 tU64 1 (.slice a2 a.gone.length k2) a.gone.length (a.gone.map encU) ∧ ∀ k, (Value.slice a2 a.gone.length k2).ownBlock = some k → w.heap.size ≤ k) ∧
    (w'.ownsRow 0 tAnsw 1 (.slice a3 a.ans.length k3) a.ans.length (a.ans.map ansV) ∧ ∀ k, (Value.slice a3 a.ans.length k3).ownBlock = some k → w.heap.size ≤ k) ∧
    w'.heap[x]? = some (.cells (pre ++ dchCells S K a.empty ++ post).toArray tBr (0, 0)) ∧ w.grownBy w' (some x)

/-- The three cells of the news. -/
abbrev News3 (W : World) (x q : Nat) (a : DAt) : Prop := W.cell? ⟨x, q + 4, none⟩ = some (.slice a.ap a.sent.length a.cp) ∧ W.cell? ⟨x, q + 5, none⟩ = some (.slice a.ag a.gone.length a.cg) ∧ W.cell? ⟨x, q + 6, none⟩ = some (.slice a.aa a.ans.length a.ca)

/-- A copy, and the cells of the news as they were. -/
def Cloned3 (x q : Nat) (a : DAt) (t size : Nat) (xs : List Value) (n : Nat) (W : World) (e : Ending) (w' : World) : Prop :=
  ∃ al cl, e = .returned (.slice al n cl) ∧ (w'.cell? ⟨x, q + 4, none⟩ = some (.slice a.ap a.sent.length a.cp) ∧ w'.cell? ⟨x, q + 5, none⟩ = some (.slice a.ag a.gone.length a.cg) ∧ w'.cell? ⟨x, q + 6, none⟩ = some (.slice a.aa a.ans.length a.ca)) ∧
    x ≠ w'.heap.size ∧
    Hid (w'.ownsRow 0 t size (.slice al n cl) n xs ∧ (∀ k, (Value.slice al n cl).ownBlock = some k → W.heap.size ≤ k) ∧ W.grownBy w' none)

theorem cloned3 {w1 W : World} {f t size n : Nat} {v : Value} {xs : List Value} (hx : x < w1.heap.size) (h3 : News3 w1 x q a) (g : w1.grownBy W none) (h : Calls Tryz.prog f #[v] W (Cloned t size xs n W)) : Calls Tryz.prog f #[v] W (Cloned3 x q a t size xs n W) := by
  refine h.mono ?_
  rintro e w' ⟨al, cl, rfl, r1, r2, r3⟩
  have gg := grown_trans g r3 (by simp)
  have cc : ∀ j, w'.cell? ⟨x, j, none⟩ = w1.cell? ⟨x, j, none⟩ := fun j => World.cell?_of_block (gg.block x hx (by simp))
  exact ⟨al, cl, rfl, ⟨by rw [cc]; exact h3.1, by rw [cc]; exact h3.2.1, by rw [cc]; exact h3.2.2⟩, by have := gg.size; omega, r1, r2, r3⟩

theorem blk3c {w : World} {b t : Nat} {x0 x1 x2 : Value} (h : Hid (w.heap[b]? = some (.cells #[x0, x1, x2] t (0, 0)))) :
    w.cell? ⟨b, 0, none⟩ = some x0 ∧ w.cell? ⟨b, 1, none⟩ = some x1 ∧ w.cell? ⟨b, 2, none⟩ = some x2 ∧ (∀ k, w.frozen? ⟨b, k, none⟩ = false) := by
  have h' := h.out
  refine ⟨?_, ?_, ?_, ?_⟩
  all_goals first
    | (intro k; simp [World.frozen?, h'])
    | simp [World.cell?, h']

theorem cell_far {w : World} {b c o o' : Nat} {v : Value} (h : b ≠ c) : (w.setCell ⟨c, o', none⟩ v).cell? ⟨b, o, none⟩ = w.cell? ⟨b, o, none⟩ := World.cell?_of_block (setCell_other w ⟨c, o', none⟩ v h)

/-- The copies are made, and lie in block j. -/
def Copied (a : DAt) (w w5 : World) (x j : Nat) (pre post : List Value) (S : Ch) (K : Hd) (a1 : Option Addr) (k1 : Nat) (a2 : Option Addr) (k2 : Nat) (a3 : Option Addr) (k3 : Nat) : Prop :=
  w.grownBy w5 none ∧ w.heap.size < j ∧ w5.heap[w.heap.size]? = some (.cells #[.slice none 0 0, .slice none 0 0, .slice none 0 0] 86 (0, 0)) ∧ w5.heap[j]? = some (.cells #[.slice a1 a.sent.length k1, .slice a2 a.gone.length k2, .slice a3 a.ans.length k3] 86 (0, 0)) ∧
  w5.heap[x]? = some (.cells (pre ++ dchCells S K a ++ post).toArray tBr (0, 0)) ∧
  (w5.ownsRow 0 tPk 7 (.slice a1 a.sent.length k1) a.sent.length (a.sent.flatMap Pk.cells) ∧ ∀ k, (Value.slice a1 a.sent.length k1).ownBlock = some k → w.heap.size ≤ k) ∧
  (w5.ownsRow 0 tU64 1 (.slice a2 a.gone.length k2) a.gone.length (a.gone.map encU) ∧ ∀ k, (Value.slice a2 a.gone.length k2).ownBlock = some k → w.heap.size ≤ k) ∧
  (w5.ownsRow 0 tAnsw 1 (.slice a3 a.ans.length k3) a.ans.length (a.ans.map ansV) ∧ ∀ k, (Value.slice a3 a.ans.length k3).ownBlock = some k → w.heap.size ≤ k)

theorem copied_set {a : DAt} {w w4 : World} {j : Nat} {a1 a2 a3 : Option Addr} {k1 k2 k3 : Nat} (g : w.grownBy w4 none) (hj : w.heap.size < j) (hX : w4.heap[w.heap.size]? = some (.cells #[.slice none 0 0, .slice none 0 0, .slice none 0 0] 86 (0, 0)))
    (hY : w4.heap[j]? = some (.cells #[.slice none 0 0, .slice none 0 0, .slice none 0 0] 86 (0, 0))) (hx : w4.heap[x]? = some (.cells (pre ++ dchCells S K a ++ post).toArray tBr (0, 0))) (hxl : x < w.heap.size)
    (r1 : w4.ownsRow 0 tPk 7 (.slice a1 a.sent.length k1) a.sent.length (a.sent.flatMap Pk.cells)) (f1 : ∀ k, (Value.slice a1 a.sent.length k1).ownBlock = some k → w.heap.size ≤ k)
    (r2 : w4.ownsRow 0 tU64 1 (.slice a2 a.gone.length k2) a.gone.length (a.gone.map encU)) (f2 : ∀ k, (Value.slice a2 a.gone.length k2).ownBlock = some k → w.heap.size ≤ k)
    (r3 : w4.ownsRow 0 tAnsw 1 (.slice a3 a.ans.length k3) a.ans.length (a.ans.map ansV)) (f3 : ∀ k, (Value.slice a3 a.ans.length k3).ownBlock = some k → w.heap.size ≤ k) :
    Copied a w (((w4.setCell ⟨j, 0, none⟩ (.slice a1 a.sent.length k1)).setCell ⟨j, 1, none⟩ (.slice a2 a.gone.length k2)).setCell ⟨j, 2, none⟩ (.slice a3 a.ans.length k3)) x j pre post S K a1 k1 a2 k2 a3 k3 := by
  have far : ∀ k, k ≠ j → (((w4.setCell ⟨j, 0, none⟩ (.slice a1 a.sent.length k1)).setCell ⟨j, 1, none⟩ (.slice a2 a.gone.length k2)).setCell ⟨j, 2, none⟩ (.slice a3 a.ans.length k3)).heap[k]? = w4.heap[k]? := fun k hk => by
    rw [setCell_other _ _ _ hk, setCell_other _ _ _ hk, setCell_other _ _ _ hk]
  have row : ∀ {e size n : Nat} {v : Value} {xs : List Value}, w4.ownsRow 0 e size v n xs → 86 ≠ e → (((w4.setCell ⟨j, 0, none⟩ (.slice a1 a.sent.length k1)).setCell ⟨j, 1, none⟩ (.slice a2 a.gone.length k2)).setCell ⟨j, 2, none⟩ (.slice a3 a.ans.length k3)).ownsRow 0 e size v n xs := fun r hne =>
    owns_keep r fun k e => far k (fun e1 => owns_ne hY r hne (by rw [e, e1]))
  refine ⟨grown_set (grown_set (grown_set g _ _ (.inr (by simp; omega))) _ _ (.inr (by simp; omega))) _ _ (.inr (by simp; omega)), hj, (far _ (by omega)).trans hX, ?_, (far _ (by omega)).trans hx, ⟨row r1 (by decide), f1⟩, ⟨row r2 (by decide), f2⟩, row r3 (by decide), f3⟩
  rw [setCell_same (setCell_same (setCell_same hY _ _) _ _)]
  rfl

theorem copied_alloc {a : DAt} {w w4 : World} {a1 a2 a3 : Option Addr} {k1 k2 k3 : Nat} (g : w.grownBy w4 none) (hj : w.heap.size < w4.heap.size) (hX : w4.heap[w.heap.size]? = some (.cells #[.slice none 0 0, .slice none 0 0, .slice none 0 0] 86 (0, 0)))
    (hx : w4.heap[x]? = some (.cells (pre ++ dchCells S K a ++ post).toArray tBr (0, 0)))
    (r1 : w4.ownsRow 0 tPk 7 (.slice a1 a.sent.length k1) a.sent.length (a.sent.flatMap Pk.cells)) (f1 : ∀ k, (Value.slice a1 a.sent.length k1).ownBlock = some k → w.heap.size ≤ k)
    (r2 : w4.ownsRow 0 tU64 1 (.slice a2 a.gone.length k2) a.gone.length (a.gone.map encU)) (f2 : ∀ k, (Value.slice a2 a.gone.length k2).ownBlock = some k → w.heap.size ≤ k)
    (r3 : w4.ownsRow 0 tAnsw 1 (.slice a3 a.ans.length k3) a.ans.length (a.ans.map ansV)) (f3 : ∀ k, (Value.slice a3 a.ans.length k3).ownBlock = some k → w.heap.size ≤ k) :
    Copied a w (w4.alloc (.cells #[.slice a1 a.sent.length k1, .slice a2 a.gone.length k2, .slice a3 a.ans.length k3] 86)) x w4.heap.size pre post S K a1 k1 a2 k2 a3 k3 :=
  ⟨grown_alloc g _, hj, (heap_alloc_old w4 _ (blk_lt hX)).trans hX, heap_alloc_new w4 _, (heap_alloc_old w4 _ (blk_lt hx)).trans hx, ⟨r1.alloc _, f1⟩, ⟨r2.alloc _, f2⟩, r3.alloc _, f3⟩

theorem drew_heap (w : World) : w.drew.heap = w.heap := rfl

/-- The lists are emptied. -/
theorem handed_mid {a : DAt} {w w5 : World} {j : Nat} {a1 a2 a3 : Option Addr} {k1 k2 k3 : Nat} (hq : pre.length = q) (hxl : x < w.heap.size) (hC : Copied a w w5 x j pre post S K a1 k1 a2 k2 a3 k3) :
    ∃ w6, w6 = (((w5.setCell ⟨x, q + 4, none⟩ (.slice a.ap 0 a.cp)).setCell ⟨x, q + 4 + 1, none⟩ (.slice a.ag 0 a.cg)).setCell ⟨x, q + 4 + 2, none⟩ (.slice a.aa 0 a.ca)).drew ∧ w.grownBy w6 (some x) ∧
      w6.heap[w.heap.size]? = some (.cells #[.slice none 0 0, .slice none 0 0, .slice none 0 0] 86 (0, 0)) ∧ w6.heap[j]? = some (.cells #[.slice a1 a.sent.length k1, .slice a2 a.gone.length k2, .slice a3 a.ans.length k3] 86 (0, 0)) ∧
      w6.heap[x]? = some (.cells (pre ++ dchCells S K a.empty ++ post).toArray tBr (0, 0)) ∧
      (w6.ownsRow 0 tPk 7 (.slice a1 a.sent.length k1) a.sent.length (a.sent.flatMap Pk.cells) ∧ w6.ownsRow 0 tU64 1 (.slice a2 a.gone.length k2) a.gone.length (a.gone.map encU) ∧ w6.ownsRow 0 tAnsw 1 (.slice a3 a.ans.length k3) a.ans.length (a.ans.map ansV)) := by
  obtain ⟨g5, hj5, hX5, hJ5, hB5, ⟨R1, F1⟩, ⟨R2, F2⟩, R3, F3⟩ := hC
  obtain ⟨w6, hw6⟩ : ∃ w6, w6 = (((w5.setCell ⟨x, q + 4, none⟩ (.slice a.ap 0 a.cp)).setCell ⟨x, q + 4 + 1, none⟩ (.slice a.ag 0 a.cg)).setCell ⟨x, q + 4 + 2, none⟩ (.slice a.aa 0 a.ca)).drew := ⟨_, rfl⟩
  have far : ∀ k, k ≠ x → w6.heap[k]? = w5.heap[k]? := fun k hk => by
    rw [hw6, drew_heap, setCell_other _ _ _ hk, setCell_other _ _ _ hk, setCell_other _ _ _ hk]
  have g6 : w.grownBy w6 (some x) := by
    rw [hw6]
    refine grown_drew ?_
    refine grown_set ?_ ⟨x, q + 4 + 2, none⟩ _ (.inl rfl)
    refine grown_set ?_ ⟨x, q + 4 + 1, none⟩ _ (.inl rfl)
    exact grown_set (grown_none g5 _) ⟨x, q + 4, none⟩ _ (.inl rfl)
  have hB6 : w6.heap[x]? = some (.cells (pre ++ dchCells S K a.empty ++ post).toArray tBr (0, 0)) := by
    rw [hw6, drew_heap]
    have t1 := blkq_set hB5 hq 4 (by simp [dchCells]) (.slice a.ap 0 a.cp)
    have t2 := blkq_set t1 hq 5 (by simp [dchCells]) (.slice a.ag 0 a.cg)
    exact blkq_set t2 hq 6 (by simp [dchCells]) (.slice a.aa 0 a.ca)
  exact ⟨w6, hw6, g6, (far _ (by omega)).trans hX5, (far _ (by omega)).trans hJ5, hB6, owns_keep R1 fun k e => far k (fun e1 => by have := F1 k e; omega), owns_keep R2 fun k e => far k (fun e1 => by have := F2 k e; omega),
    owns_keep R3 fun k e => far k (fun e1 => by have := F3 k e; omega)⟩

theorem handed_done {a : DAt} {w w6 : World} {a1 a2 a3 : Option Addr} {k1 k2 k3 : Nat} (hxl : x < w.heap.size) (g6 : w.grownBy w6 (some x)) (hX6 : w6.heap[w.heap.size]? = some (.cells #[.slice none 0 0, .slice none 0 0, .slice none 0 0] 86 (0, 0)))
    (hB6 : w6.heap[x]? = some (.cells (pre ++ dchCells S K a.empty ++ post).toArray tBr (0, 0)))
    (R1 : w6.ownsRow 0 tPk 7 (.slice a1 a.sent.length k1) a.sent.length (a.sent.flatMap Pk.cells)) (F1 : ∀ k, (Value.slice a1 a.sent.length k1).ownBlock = some k → w.heap.size ≤ k)
    (R2 : w6.ownsRow 0 tU64 1 (.slice a2 a.gone.length k2) a.gone.length (a.gone.map encU)) (F2 : ∀ k, (Value.slice a2 a.gone.length k2).ownBlock = some k → w.heap.size ≤ k)
    (R3 : w6.ownsRow 0 tAnsw 1 (.slice a3 a.ans.length k3) a.ans.length (a.ans.map ansV)) (F3 : ∀ k, (Value.slice a3 a.ans.length k3).ownBlock = some k → w.heap.size ≤ k) (v1 v2 v3 : Value) :
    Handed w x pre post S K a (.returned (.agg #[.slice a1 a.sent.length k1, .slice a2 a.gone.length k2, .slice a3 a.ans.length k3])) (((w6.setCell ⟨w.heap.size, 0, none⟩ v1).setCell ⟨w.heap.size, 1, none⟩ v2).setCell ⟨w.heap.size, 2, none⟩ v3) := by
  have far : ∀ k, k ≠ w.heap.size → (((w6.setCell ⟨w.heap.size, 0, none⟩ v1).setCell ⟨w.heap.size, 1, none⟩ v2).setCell ⟨w.heap.size, 2, none⟩ v3).heap[k]? = w6.heap[k]? := fun k hk => by
    rw [setCell_other _ _ _ hk, setCell_other _ _ _ hk, setCell_other _ _ _ hk]
  have row : ∀ {e size n : Nat} {v : Value} {xs : List Value}, w6.ownsRow 0 e size v n xs → 86 ≠ e → (((w6.setCell ⟨w.heap.size, 0, none⟩ v1).setCell ⟨w.heap.size, 1, none⟩ v2).setCell ⟨w.heap.size, 2, none⟩ v3).ownsRow 0 e size v n xs := fun r hne =>
    owns_keep r fun k e => far k (fun e1 => owns_ne hX6 r hne (by rw [e, e1]))
  exact ⟨a1, k1, a2, k2, a3, k3, rfl, ⟨row R1 (by decide), F1⟩, ⟨row R2 (by decide), F2⟩, ⟨row R3 (by decide), F3⟩, (far x (by omega)).trans hB6,
    grown_set (grown_set (grown_set g6 _ _ (.inr (Nat.le_refl _))) _ _ (.inr (Nat.le_refl _))) _ _ (.inr (Nat.le_refl _))⟩

theorem owns_by {w w' : World} {e size n : Nat} {v : Value} {xs : List Value} (r : w.ownsRow 0 e size v n xs) (g : w.grownBy w' none) : w'.ownsRow 0 e size v n xs := owns_keep r fun k e => g.block k (owns_lt r e) (by simp)

set_option maxRecDepth 100000 in
set_option maxHeartbeats 1600000 in
theorem handOn_any (h : DevCh lab l w x pre post S K a B) (hq : pre.length = q) (hB : B ≤ 10000000) :
    Calls Tryz.prog 58 #[.pointer (some ⟨x, q + 4, none⟩)] w (Handed w x pre post S K a) := by
  have hxl : x < w.heap.size := blk_lt h.blk
  obtain ⟨w1, hw1⟩ : ∃ w1 : World, w1 = w.alloc (.cells #[.slice none 0 0, .slice none 0 0, .slice none 0 0] 86) := ⟨_, rfl⟩
  have g1 : w.grownBy w1 none := by rw [hw1]; exact World.grownBy_alloc _ _ _
  have hX1 : w1.heap[w.heap.size]? = some (.cells #[.slice none 0 0, .slice none 0 0, .slice none 0 0] 86 (0, 0)) := by rw [hw1]; exact heap_alloc_new w _
  have hB1 := (g1.block x hxl (by simp)).trans h.blk
  obtain ⟨c0, c1, c2, c3, c4, c5, c6, c7, c8, c9, c10, c11, c12, c13, c14, c15, c16, c17, c18, c19, c20, c21, cf⟩ := dch_cells hB1 hq
  have hls := h.good.ls
  have hlg := h.good.lg
  have hla := h.good.lan
  have keepR : ∀ {W : World} {e size n : Nat} {v : Value} {xs : List Value}, w.ownsRow 0 e size v n xs → w1.grownBy W none → W.ownsRow 0 e size v n xs := fun r g => owns_keep r fun k e => (grown_trans g1 g (by simp)).block k (owns_lt r e) (by simp)
  have hc1 : ∀ W, w1.grownBy W none → Calls Tryz.prog 76 #[.slice a.ap a.sent.length a.cp] W (Cloned3 x q a tPk 7 (a.sent.flatMap Pk.cells) a.sent.length W) := fun W g => cloned3 (by have := g1.size; omega) ⟨c4, c5, c6⟩ g (clonePk (keepR h.sent g) (by omega))
  have hc2 : ∀ W, w1.grownBy W none → Calls Tryz.prog 77 #[.slice a.ag a.gone.length a.cg] W (Cloned3 x q a tU64 1 (a.gone.map encU) a.gone.length W) := fun W g => cloned3 (by have := g1.size; omega) ⟨c4, c5, c6⟩ g (cloneU (keepR h.gone g) (by omega))
  have hc3 : ∀ W, w1.grownBy W none → Calls Tryz.prog 78 #[.slice a.aa a.ans.length a.ca] W (Cloned3 x q a tAnsw 1 (a.ans.map ansV) a.ans.length W) := fun W g => cloned3 (by have := g1.size; omega) ⟨c4, c5, c6⟩ g (cloneA (keepR h.ans g) (by omega))
  have gd : w1.grownBy w1.drew none := grown_drew (grown_refl w1 none)
  clear c0 c1 c2 c3 c7 c8 c9 c10 c11 c12 c13 c14 c15 c16 c17 c18 c19 c20 c21
  go_enter Tryz.func58, Tryz.ntmps58
  go_wp2_with fail
  rw [← hw1]
  clear hw1
  have hz1 : w.heap.size < w1.heap.size := blk_lt hX1
  have hx1 : x ≠ w1.heap.size := by omega
  go_region_held3 (fun w' => w'.cell? ⟨x, q + 4, none⟩ = some (.slice a.ap a.sent.length a.cp) ∧ w'.cell? ⟨x, q + 5, none⟩ = some (.slice a.ag a.gone.length a.cg) ∧ w'.cell? ⟨x, q + 6, none⟩ = some (.slice a.aa a.ans.length a.ca)) (first | go_keep | (refine ⟨?_, ?_, ?_⟩ <;> (rw [cell_far (by assumption), cell_far (by assumption), cell_far (by assumption)]; assumption)))
    (first | (go_at_call 76; refine (hc1 _ (by repeat first | exact gd | exact grown_refl _ _ | refine grown_drew ?_ | refine grown_alloc ?_ _)).mono ?_; rintro e w2 ⟨al1, cl1, rfl, ⟨k4, k5, k6⟩, kx, H1⟩; (try (have Y : Hid (w2.heap[w1.heap.size]? = some (.cells #[.slice none 0 0, .slice none 0 0, .slice none 0 0] 86 (0, 0))) := ((H1.2.2.block _ (by simp) (by simp)).trans (heap_alloc_new w1 _)); obtain ⟨y0, y1, y2, yf⟩ := blk3c Y))) | (go_at_call 77; refine (hc2 _ (by repeat first | exact gd | exact grown_refl _ _ | refine grown_drew ?_ | refine grown_trans ?_ H1.2.2 (fun _ e => by cases e) | refine grown_alloc ?_ _)).mono ?_; rintro e w3 ⟨al2, cl2, rfl, ⟨m4, m5, m6⟩, mx, H2⟩; (try (have Y : Hid (w3.heap[w2.heap.size]? = some (.cells #[.slice none 0 0, .slice none 0 0, .slice none 0 0] 86 (0, 0))) := ((H2.2.2.block _ (by simp) (by simp)).trans (heap_alloc_new w2 _)); obtain ⟨y0, y1, y2, yf⟩ := blk3c Y)); (try (have Z : Hid (w3.heap[w1.heap.size]? = some (.cells #[.slice none 0 0, .slice none 0 0, .slice none 0 0] 86 (0, 0))) := ((H2.2.2.block _ (blk_lt Y) (by simp)).trans Y); clear Y; have Y := Z; clear Z; clear y0 y1 y2 yf; obtain ⟨y0, y1, y2, yf⟩ := blk3c Y))) | (go_at_call 78; refine (hc3 _ (by repeat first | exact gd | exact grown_refl _ _ | refine grown_drew ?_ | refine grown_trans ?_ H2.2.2 (fun _ e => by cases e) | refine grown_trans ?_ H1.2.2 (fun _ e => by cases e) | refine grown_alloc ?_ _)).mono ?_; rintro e w4 ⟨al3, cl3, rfl, ⟨n4, n5, n6⟩, nx, H3⟩; (try (have Y : Hid (w4.heap[w3.heap.size]? = some (.cells #[.slice none 0 0, .slice none 0 0, .slice none 0 0] 86 (0, 0))) := ((H3.2.2.block _ (by simp) (by simp)).trans (heap_alloc_new w3 _)); obtain ⟨y0, y1, y2, yf⟩ := blk3c Y)); (try (have Z : Hid (w4.heap[w2.heap.size]? = some (.cells #[.slice none 0 0, .slice none 0 0, .slice none 0 0] 86 (0, 0))) := ((H3.2.2.block _ (blk_lt Y) (by simp)).trans Y); clear Y; have Y := Z; clear Z; clear y0 y1 y2 yf; obtain ⟨y0, y1, y2, yf⟩ := blk3c Y)); (try (have Z : Hid (w4.heap[w1.heap.size]? = some (.cells #[.slice none 0 0, .slice none 0 0, .slice none 0 0] 86 (0, 0))) := ((H3.2.2.block _ (blk_lt Y) (by simp)).trans Y); clear Y; have Y := Z; clear Z; clear y0 y1 y2 yf; obtain ⟨y0, y1, y2, yf⟩ := blk3c Y))))
  all_goals
    have G14 : w1.grownBy w4 none := (by repeat first | exact grown_refl _ _ | refine grown_trans ?_ H3.2.2 (fun _ e => by cases e) | refine grown_trans ?_ H2.2.2 (fun _ e => by cases e) | refine grown_trans ?_ H1.2.2 (fun _ e => by cases e) | refine grown_alloc ?_ _ | refine grown_drew ?_)
    have G24 : w2.grownBy w4 none := (by repeat first | exact grown_refl _ _ | refine grown_trans ?_ H3.2.2 (fun _ e => by cases e) | refine grown_trans ?_ H2.2.2 (fun _ e => by cases e) | refine grown_trans ?_ H1.2.2 (fun _ e => by cases e) | refine grown_alloc ?_ _ | refine grown_drew ?_)
    have G34 : w3.grownBy w4 none := (by repeat first | exact grown_refl _ _ | refine grown_trans ?_ H3.2.2 (fun _ e => by cases e) | refine grown_trans ?_ H2.2.2 (fun _ e => by cases e) | refine grown_trans ?_ H1.2.2 (fun _ e => by cases e) | refine grown_alloc ?_ _ | refine grown_drew ?_)
    have s12 : w1.heap.size ≤ w2.heap.size := World.grownBy.size (row := none) (by repeat first | exact grown_refl _ _ | refine grown_trans ?_ H3.2.2 (fun _ e => by cases e) | refine grown_trans ?_ H2.2.2 (fun _ e => by cases e) | refine grown_trans ?_ H1.2.2 (fun _ e => by cases e) | refine grown_alloc ?_ _ | refine grown_drew ?_)
    have s13 : w1.heap.size ≤ w3.heap.size := World.grownBy.size (row := none) (by repeat first | exact grown_refl _ _ | refine grown_trans ?_ H3.2.2 (fun _ e => by cases e) | refine grown_trans ?_ H2.2.2 (fun _ e => by cases e) | refine grown_trans ?_ H1.2.2 (fun _ e => by cases e) | refine grown_alloc ?_ _ | refine grown_drew ?_)
    have s14 := G14.size
    have R1 := owns_by H1.1 G24
    have R2 := owns_by H2.1 G34
    have F1 : ∀ k, (Value.slice al1 a.sent.length cl1).ownBlock = some k → w.heap.size ≤ k := fun k e => by have := H1.2.1 k e; (try simp at this); omega
    have F2 : ∀ k, (Value.slice al2 a.gone.length cl2).ownBlock = some k → w.heap.size ≤ k := fun k e => by have := H2.2.1 k e; (try simp at this); omega
    have F3 : ∀ k, (Value.slice al3 a.ans.length cl3).ownBlock = some k → w.heap.size ≤ k := fun k e => by have := H3.2.1 k e; (try simp at this); omega
    have hX4 := (G14.block _ (blk_lt hX1) (by simp)).trans hX1
    have hB4 := (G14.block _ (blk_lt hB1) (by simp)).trans hB1
    obtain ⟨w5, j, hw5, hjj, hCo⟩ : ∃ w5 j, w5 = _ ∧ j = _ ∧ Copied a w w5 x j pre post S K al1 cl1 al2 cl2 al3 cl3 := ⟨_, _, rfl, rfl, by first | exact copied_set (grown_trans g1 G14 (by simp)) (by omega) hX4 Y hB4 hxl R1 F1 R2 F2 H3.1 F3 | exact copied_alloc (grown_trans g1 G14 (by simp)) (by omega) hX4 hB4 R1 F1 R2 F2 H3.1 F3⟩
    rw [← hw5, ← hjj]
    have hCC := hCo
    obtain ⟨g5, hj5, hX5, hJ5, hB5, ⟨R1', F1'⟩, ⟨R2', F2'⟩, R3', F3'⟩ := hCo
    clear hw5 hjj H1 H2 H3 G14 G24 G34 s12 s13 s14 R1 R2 F1 F2 F3 hX4 hB4 k4 k5 k6 kx m4 m5 m6 mx n4 n5 n6 nx c4 c5 c6 cf hc1 hc2 hc3 hx1
    have hxl5 := blk_lt hB5
    have hjl5 := blk_lt hJ5
    have hxj : x ≠ j := by omega
    obtain ⟨c0, c1, c2, c3, c4, c5, c6, c7, c8, c9, c10, c11, c12, c13, c14, c15, c16, c17, c18, c19, c20, c21, cf⟩ := dch_cells hB5 hq
    clear c0 c1 c2 c3 c7 c8 c9 c10 c11 c12 c13 c14 c15 c16 c17 c18 c19 c20 c21
    go_wp2_with fail
    go_region
    obtain ⟨w6, hw6, g6, hX6, hJ6, hB6, R1, R2, R3⟩ := handed_mid hq hxl hCC
    rw [← hw6]
    clear hw6 hCC R1' R2' R3' c4 c5 c6 cf
    have hxl6 := blk_lt hX6
    have hjl6 := blk_lt hJ6
    have hjn : w.heap.size ≠ j := by omega
    obtain ⟨y0, y1, y2, yf⟩ := blk3c hJ6
    obtain ⟨z0, z1, z2, zf⟩ := blk3c hX6
    go_wp2_with fail
    refine bodyPost_ret (v := .agg #[.slice al1 a.sent.length cl1, .slice al2 a.gone.length cl2, .slice al3 a.ans.length cl3]) ?_ rfl (handed_done hxl g6 hX6 hB6 R1 F1' R2 F2' R3 F3' _ _ _)
    simp [results, Tryz.results58, go_sem, *]

end

end Go.Proofs.YtmfdhcnnhlchbaaGreat

namespace Go.Proofs.YtmfdhcnnhlchbaaGreat
open Go.RowKit Go.Maps

section
variable {lab : Nat → Nat} {l : Nat} {w : World} {x q : Nat} {pre post : List Value} {S : Ch} {K : Hd} {a : DAt} {B : Nat}

abbrev hdrNil : Array Value := #[.int .u64 0, .int .u64 0, .bool false, .int .u64 0, .int .i64 0, .int .i64 0, .slice none 0 0, .slice none 0 0, .slice none 0 0]

/-- The header that is told: its value. -/
abbrev HdN.agg (h : HdN) : Value := .agg #[.int .u64 h.hd.height, .int .u64 h.hd.time, .bool h.hd.isOpen, .int .u64 h.hd.nextRecv, .int .i64 h.hd.packets.length, .int .i64 h.hd.answers.length, .slice h.ap h.sent.length h.cp, .slice h.ag h.gone.length h.cg, .slice h.aa h.ans.length h.ca]

/-- What 'tell' has left. -/
def Tells (w : World) (x : Nat) (pre post : List Value) (S : Ch) (K : Hd) (a : DAt) (e : Ending) (w' : World) : Prop :=
  ∃ y : HdN, y.hd = S.hd ∧ y.sent = a.sent ∧ y.gone = a.gone ∧ y.ans = a.ans ∧ e = .returned y.agg ∧
    (w'.ownsRow 0 tPk 7 y.vs y.sent.length (y.sent.flatMap Pk.cells) ∧ ∀ k, y.vs.ownBlock = some k → w.heap.size ≤ k) ∧
    (w'.ownsRow 0 tU64 1 y.vg y.gone.length (y.gone.map encU) ∧ ∀ k, y.vg.ownBlock = some k → w.heap.size ≤ k) ∧
    (w'.ownsRow 0 tAnsw 1 y.va y.ans.length (y.ans.map ansV) ∧ ∀ k, y.va.ownBlock = some k → w.heap.size ≤ k) ∧
    w'.heap[x]? = some (.cells (pre ++ dchCells S K a.empty ++ post).toArray tBr (0, 0)) ∧ w.grownBy w' (some x)

theorem blk9c {w : World} {b t : Nat} {x0 x1 x2 x3 x4 x5 x6 x7 x8 : Value} (h : Hid (w.heap[b]? = some (.cells #[x0, x1, x2, x3, x4, x5, x6, x7, x8] t (0, 0)))) :
    w.cell? ⟨b, 0, none⟩ = some x0 ∧ w.cell? ⟨b, 1, none⟩ = some x1 ∧ w.cell? ⟨b, 2, none⟩ = some x2 ∧ w.cell? ⟨b, 3, none⟩ = some x3 ∧ w.cell? ⟨b, 4, none⟩ = some x4 ∧ w.cell? ⟨b, 5, none⟩ = some x5 ∧ w.cell? ⟨b, 6, none⟩ = some x6 ∧ w.cell? ⟨b, 7, none⟩ = some x7 ∧ w.cell? ⟨b, 8, none⟩ = some x8 ∧ (∀ k, w.frozen? ⟨b, k, none⟩ = false) := by
  have h' := h.out
  refine ⟨?_, ?_, ?_, ?_, ?_, ?_, ?_, ?_, ?_, ?_⟩
  all_goals first
    | (intro k; simp [World.frozen?, h'])
    | simp [World.cell?, h']

/-- The world with nine cells of block b set. -/
abbrev set9 (w : World) (b : Nat) (v0 v1 v2 v3 v4 v5 v6 v7 v8 : Value) : World :=
  ((((((((w.setCell ⟨b, 0, none⟩ v0).setCell ⟨b, 1, none⟩ v1).setCell ⟨b, 2, none⟩ v2).setCell ⟨b, 3, none⟩ v3).setCell ⟨b, 4, none⟩ v4).setCell ⟨b, 5, none⟩ v5).setCell ⟨b, 6, none⟩ v6).setCell ⟨b, 7, none⟩ v7).setCell ⟨b, 8, none⟩ v8

theorem set9_other {w : World} {b k : Nat} (v0 v1 v2 v3 v4 v5 v6 v7 v8 : Value) (h : k ≠ b) : (set9 w b v0 v1 v2 v3 v4 v5 v6 v7 v8).heap[k]? = w.heap[k]? := by
  unfold set9
  rw [setCell_other _ _ _ h, setCell_other _ _ _ h, setCell_other _ _ _ h, setCell_other _ _ _ h, setCell_other _ _ _ h, setCell_other _ _ _ h, setCell_other _ _ _ h, setCell_other _ _ _ h, setCell_other _ _ _ h]

theorem set9_grown {w w1 : World} {b : Nat} {r : Option Nat} (v0 v1 v2 v3 v4 v5 v6 v7 v8 : Value) (h : w.heap.size ≤ b) (g : w.grownBy w1 r) : w.grownBy (set9 w1 b v0 v1 v2 v3 v4 v5 v6 v7 v8) r := by
  unfold set9
  refine grown_set ?_ ⟨b, 8, none⟩ _ (.inr h)
  refine grown_set ?_ ⟨b, 7, none⟩ _ (.inr h)
  refine grown_set ?_ ⟨b, 6, none⟩ _ (.inr h)
  refine grown_set ?_ ⟨b, 5, none⟩ _ (.inr h)
  refine grown_set ?_ ⟨b, 4, none⟩ _ (.inr h)
  refine grown_set ?_ ⟨b, 3, none⟩ _ (.inr h)
  refine grown_set ?_ ⟨b, 2, none⟩ _ (.inr h)
  refine grown_set ?_ ⟨b, 1, none⟩ _ (.inr h)
  exact grown_set g ⟨b, 0, none⟩ _ (.inr h)

theorem tells_done {w w1 w2 : World} {a1 a2 a3 : Option Addr} {k1 k2 k3 : Nat} (hxl : x < w.heap.size) (g1 : w.grownBy w1 none) (g2 : w1.grownBy w2 (some x)) (hX2 : w2.heap[w.heap.size]? = some (.cells hdrNil tHeader (0, 0)))
    (hB2 : w2.heap[x]? = some (.cells (pre ++ dchCells S K a.empty ++ post).toArray tBr (0, 0)))
    (R1 : w2.ownsRow 0 tPk 7 (.slice a1 a.sent.length k1) a.sent.length (a.sent.flatMap Pk.cells)) (F1 : ∀ k, (Value.slice a1 a.sent.length k1).ownBlock = some k → w1.heap.size ≤ k)
    (R2 : w2.ownsRow 0 tU64 1 (.slice a2 a.gone.length k2) a.gone.length (a.gone.map encU)) (F2 : ∀ k, (Value.slice a2 a.gone.length k2).ownBlock = some k → w1.heap.size ≤ k)
    (R3 : w2.ownsRow 0 tAnsw 1 (.slice a3 a.ans.length k3) a.ans.length (a.ans.map ansV)) (F3 : ∀ k, (Value.slice a3 a.ans.length k3).ownBlock = some k → w1.heap.size ≤ k) (v0 v1 v2 v3 v4 v5 v6 v7 v8 : Value) :
    Tells w x pre post S K a (.returned (HdN.agg ⟨S.hd, a.sent, a.gone, a.ans, a1, k1, a2, k2, a3, k3⟩)) (set9 w2 w.heap.size v0 v1 v2 v3 v4 v5 v6 v7 v8) := by
  have s1 := g1.size
  have row : ∀ {e size n : Nat} {v : Value} {xs : List Value}, w2.ownsRow 0 e size v n xs → tHeader ≠ e → (set9 w2 w.heap.size v0 v1 v2 v3 v4 v5 v6 v7 v8).ownsRow 0 e size v n xs := fun r hne =>
    owns_keep r fun k e => set9_other v0 v1 v2 v3 v4 v5 v6 v7 v8 (fun e1 => owns_ne hX2 r hne (by rw [e, e1]))
  exact ⟨⟨S.hd, a.sent, a.gone, a.ans, a1, k1, a2, k2, a3, k3⟩, rfl, rfl, rfl, rfl, rfl, ⟨row R1 (by decide), fun k e => by have := F1 k e; omega⟩, ⟨row R2 (by decide), fun k e => by have := F2 k e; omega⟩, ⟨row R3 (by decide), fun k e => by have := F3 k e; omega⟩,
    (set9_other v0 v1 v2 v3 v4 v5 v6 v7 v8 (by omega)).trans hB2, set9_grown _ _ _ _ _ _ _ _ _ (Nat.le_refl _) (grown_trans (grown_none g1 _) g2 (fun k e => .inl e))⟩

set_option maxRecDepth 100000 in
set_option maxHeartbeats 1600000 in
theorem tell_any (h : DevCh lab l w x pre post S K a B) (hq : pre.length = q) (hB : B ≤ 10000000) :
    Calls Tryz.prog 46 #[.pointer (some ⟨x, q, none⟩)] w (Tells w x pre post S K a) := by
  have hxl : x < w.heap.size := blk_lt h.blk
  obtain ⟨w1, hw1⟩ : ∃ w1 : World, w1 = w.alloc (.cells hdrNil tHeader) := ⟨_, rfl⟩
  have g1 : w.grownBy w1 none := by rw [hw1]; exact World.grownBy_alloc _ _ _
  have hX1 : w1.heap[w.heap.size]? = some (.cells hdrNil tHeader (0, 0)) := by rw [hw1]; exact heap_alloc_new w _
  have h1 : DevCh lab l w1.drew x pre post S K a B := h.grown (grown_drew g1)
  have hM1 : MapIs Tryz.prog tU64 encU w1.drew a.bp (pkF S.hd.packets) S.hd.packets.length := h1.pend
  have hlen := hM1.len (t := 83) Tryz.underlying83 3
  have hr := h.good.hd.recv
  have hla := h.good.hd.la
  have hwr : IntKind.u64.wrap (S.hd.nextRecv - 1) = (S.hd.answers.length : Int) := by simp [IntKind.wrap, IntKind.bits, IntKind.signed]; omega
  have hwi : IntKind.i64.wrap (S.hd.answers.length : Int) = (S.hd.answers.length : Int) := by simp [IntKind.wrap, IntKind.bits, IntKind.signed]; omega
  obtain ⟨c0, c1, c2, c3, c4, c5, c6, c7, c8, c9, c10, c11, c12, c13, c14, c15, c16, c17, c18, c19, c20, c21, cf⟩ := dch_cells h1.blk hq
  have hbx : a.bp ≠ x := map_ne_blk h.pend h.blk
  have hbN : a.bp ≠ w.heap.size := by have := h.pend.lt; omega
  have hxN : x ≠ w.heap.size := by omega
  have hcall : Calls Tryz.prog 58 #[.pointer (some ⟨x, q + 4, none⟩)] w1.drew fun e w2 => ∃ a1 k1 a2 k2 a3 k3, e = .returned (.agg #[.slice a1 a.sent.length k1, .slice a2 a.gone.length k2, .slice a3 a.ans.length k3]) ∧
      (w2.cell? ⟨x, q + 8, none⟩ = some (.int .u64 S.hd.height) ∧ w2.cell? ⟨x, q + 9, none⟩ = some (.int .u64 S.hd.time) ∧ w2.cell? ⟨x, q, none⟩ = some (.bool S.hd.isOpen) ∧ w2.cell? ⟨x, q + 2, none⟩ = some (.int .u64 S.hd.nextRecv) ∧ w2.cell? ⟨x, q + 3, none⟩ = some (.map (some a.bp)) ∧
        Sem.run Tryz.prog (Builtin.len_ #[83] 3 #[.map (some a.bp)]) w2 = .ok (.int .i64 S.hd.packets.length) w2) ∧
      Hid (w2.heap[w.heap.size]? = some (.cells hdrNil tHeader (0, 0))) ∧ Hid (MapIs Tryz.prog tU64 encU w2 a.bp (pkF S.hd.packets) S.hd.packets.length) ∧
      Hid (w2.heap[x]? = some (.cells (pre ++ dchCells S K a.empty ++ post).toArray tBr (0, 0)) ∧ w1.grownBy w2 (some x) ∧
        (w2.ownsRow 0 tPk 7 (.slice a1 a.sent.length k1) a.sent.length (a.sent.flatMap Pk.cells) ∧ ∀ k, (Value.slice a1 a.sent.length k1).ownBlock = some k → w1.heap.size ≤ k) ∧
        (w2.ownsRow 0 tU64 1 (.slice a2 a.gone.length k2) a.gone.length (a.gone.map encU) ∧ ∀ k, (Value.slice a2 a.gone.length k2).ownBlock = some k → w1.heap.size ≤ k) ∧
        (w2.ownsRow 0 tAnsw 1 (.slice a3 a.ans.length k3) a.ans.length (a.ans.map ansV) ∧ ∀ k, (Value.slice a3 a.ans.length k3).ownBlock = some k → w1.heap.size ≤ k)) := by
    refine (handOn_any h1 hq hB).mono ?_
    rintro e w2 ⟨a1, k1, a2, k2, a3, k3, rfl, r1, r2, r3, r4, r5⟩
    obtain ⟨d0, d1, d2, d3, d4, d5, d6, d7, d8, d9, d10, d11, d12, d13, d14, d15, d16, d17, d18, d19, d20, d21, df⟩ := dch_cells r4 hq
    have hM2 := hM1.keep (r5.block a.bp hM1.lt (by simpa using hbx))
    exact ⟨a1, k1, a2, k2, a3, k3, rfl, ⟨d8, d9, d0, d2, d3, hM2.len Tryz.underlying83 _⟩, (r5.block w.heap.size (blk_lt hX1) (by simp; omega)).trans hX1, hM2, r4, ⟨r5.os, r5.tape, r5.output, r5.size, r5.block⟩, r1, r2, r3⟩
  clear c1 c4 c5 c6 c7 c10 c11 c12 c13 c14 c15 c16 c17 c18 c19 c20 c21 hr hla
  go_enter Tryz.func46, Tryz.ntmps46
  go_wp2_with fail
  rw [← hw1]
  clear hw1
  go_region_held3 (fun w' => w'.cell? ⟨x, q + 8, none⟩ = some (.int .u64 S.hd.height) ∧ w'.cell? ⟨x, q + 9, none⟩ = some (.int .u64 S.hd.time) ∧ w'.cell? ⟨x, q, none⟩ = some (.bool S.hd.isOpen) ∧ w'.cell? ⟨x, q + 2, none⟩ = some (.int .u64 S.hd.nextRecv) ∧ w'.cell? ⟨x, q + 3, none⟩ = some (.map (some a.bp)) ∧
        Sem.run Tryz.prog (Builtin.len_ #[83] 3 #[.map (some a.bp)]) w' = .ok (.int .i64 S.hd.packets.length) w') (first | go_keep | (refine ⟨?_, ?_, ?_, ?_, ?_, ?_⟩ <;> first | ((rw [cell_far hxN, cell_far hxN, cell_far hxN, cell_far hxN, cell_far hxN, cell_far hxN, cell_far hxN, cell_far hxN, cell_far hxN]; assumption)) | exact (MapIs.keep HM.out (set9_other _ _ _ _ _ _ _ _ _ hbN)).len Tryz.underlying83 _))
    (first | (go_at_call 58; refine hcall.mono ?_; rintro e w2 ⟨a1, k1, a2, k2, a3, k3, rfl, ⟨d8, d9, d0, d2, d3, dl⟩, HX, HM, HR⟩; obtain ⟨y0, y1, y2, y3, y4, y5, y6, y7, y8, yf⟩ := blk9c HX))
  go_wp2_with fail
  obtain ⟨HB, G2, ⟨R1, F1⟩, ⟨R2, F2⟩, R3, F3⟩ := HR
  refine bodyPost_ret (v := HdN.agg ⟨S.hd, a.sent, a.gone, a.ans, a1, k1, a2, k2, a3, k3⟩) ?_ rfl (tells_done hxl g1 G2 HX.out HB R1 F1 R2 F2 R3 F3 _ _ _ _ _ _ _ _ _)
  simp [results, Tryz.results46, go_sem, *]

end

end Go.Proofs.YtmfdhcnnhlchbaaGreat
