import Derived.Test.YtmfdhcnnhlchbabC03
import Derived.Test.YtmfdhcnnhlchbabC14
import Derived.Test.YtmfdhcnnhlchbabC15
import Derived.Deep.RegionHeld3
namespace Go.Proofs.Ytmfdhcnnhlchbab
open Go.RowKit Go.Maps Go.Sort Go.Shelf

section
variable {lab : Nat → Nat} {l : Nat} {w : World} {x q : Nat} {pre post : List Value} {S : Ch} {K : Hd} {a : DAt} {B : Nat}

theorem size_none {D : DataW Value} (h : Maps.size D = 0) (k : Lit) : has D k = false := by
  cases D <;> simp_all [Maps.size, Maps.has]

theorem keys_plain (mb : Option Nat) (w : World) : Calls Try.prog 33 #[.map mb] w fun e w' => e = .returned (.func (.func 42) #[] #[.pointer (some ⟨w.heap.size, 0, none⟩)]) ∧ w' = w.alloc (.cells #[.map mb] 83) :=
  (callsIn_wide (n := 4)).1 (keys_call Fence.wide 4 trivial rfl mb w)

theorem sorted_empty {w : World} {b n : Nat} {f : Int → Option Value} (h : MapIs Try.prog tU64 encU w b f n) (hn : n = 0) (w1 : World) (hw1 : w1 = w.alloc (.cells #[.map (some b)] 83)) :
    Calls Try.prog 32 #[.func (.func 42) #[] #[.pointer (some ⟨w.heap.size, 0, none⟩)]] w1 fun e w' => e = .returned (.slice none 0 0) ∧ w1.grownBy w' none := by
  obtain ⟨D, hown, hsz, _⟩ := h
  have hD : Maps.size D = 0 := by rw [hsz, hn]
  have hbl := hown.lt
  subst hw1
  refine sorted_none (enters_of Try.func42 (by kernel_rfl) rfl) (N := Maps.size D) (by rw [hD]; exact Nat.zero_le _) (by rw [hD]; omega) _
    (keys_stops Fence.wide 2 trivial rfl (by omega) w.heap.size b n D _ (by simp) (by simp) ?_) ?_
  · obtain ⟨es, clock, hb, Ft, hs, hDD⟩ := hown
    exact ⟨es, clock, (Below.heap_alloc _ _ b hbl).trans hb, Ft, hs, hDD⟩
  · rintro ss ⟨_, h2⟩
    cases ss with
    | nil => rfl
    | cons y r =>
      have := (h2 y).1 (by simp)
      rw [size_none hD] at this
      cases this

set_option maxRecDepth 100000 in
set_option maxHeartbeats 1600000 in
theorem look_none (h : DevCh lab l w x pre post S K a B) (hq : pre.length = q) (hp : S.hd.packets = []) : Calls Try.prog 21 #[.pointer (some ⟨x, q, none⟩)] w fun e w' => e = .returned (.agg #[.int .u64 S.hd.height, .int .u64 S.hd.time, .int .u64 K.height, .bool S.hd.isOpen, .int .u64 S.nextSend, .int .u64 S.hd.nextRecv, .slice none 0 0, .int .u64 S.locked, .int .u64 S.about]) ∧ w.grownBy w' none := by
  have hxl := blk_lt h.blk
  obtain ⟨w1, hw1⟩ : ∃ w1 : World, w1 = w.alloc (.cells #[.int .u64 0, .int .u64 0, .int .u64 0, .bool false, .int .u64 0, .int .u64 0, .slice none 0 0, .int .u64 0, .int .u64 0] 28) := ⟨_, rfl⟩
  have g1 : w.grownBy w1 none := by rw [hw1]; exact World.grownBy_alloc _ _ _
  have hX1 : w1.heap[w.heap.size]? = some (.cells #[.int .u64 0, .int .u64 0, .int .u64 0, .bool false, .int .u64 0, .int .u64 0, .slice none 0 0, .int .u64 0, .int .u64 0] 28 (0, 0)) := by rw [hw1]; exact heap_alloc_new w _
  have h1 := h.grown (grown_drew g1)
  have zl : w.heap.size < w1.heap.size := blk_lt hX1
  have hne : x ≠ w.heap.size := by omega
  have hk := keys_plain (some a.bp) w1.drew
  obtain ⟨w2, hw2⟩ : ∃ w2 : World, w2 = w1.drew.alloc (.cells #[.map (some a.bp)] 83) := ⟨_, rfl⟩
  have g2 : w1.drew.grownBy w2 none := by rw [hw2]; exact World.grownBy_alloc _ _ _
  have hs := sorted_empty h1.pend (by simp [hp]) w2 hw2
  rw [← hw2] at hk
  clear hw2
  have h2 := h1.grown g2
  obtain ⟨c0, c1, c2, c3, c4, c5, c6, c7, c8, c9, c10, c11, c12, c13, c14, c15, c16, c17, c18, c19, c20, c21, cf⟩ := dch_cells h1.blk hq
  obtain ⟨d0, d1, d2, d3, d4, d5, d6, d7, d8, d9, d10, d11, d12, d13, d14, d15, d16, d17, d18, d19, d20, d21, df⟩ := dch_cells h2.blk hq
  clear c4 c5 c6 c7 c10 c13 c15 c16 c17 c18 c19 c20 c21 cf d4 d5 d6 d7 d10 d13 d15 d16 d17 d18 d19 d20 d21 df
  have hX2 := (g2.block _ zl (by simp)).trans hX1
  have zl2 := blk_lt hX2
  obtain ⟨x0, x1, x2, x3, x4, x5, x6, x7, x8, xf⟩ := blk9c hX2
  go_enter Try.func21, Try.ntmps21
  go_wp2_with fail
  rw [← hw1]
  clear hw1
  go_region_held3 (fun w' => w'.cell? ⟨x, q, none⟩ = some (.bool S.hd.isOpen) ∧ w'.cell? ⟨x, q + 1, none⟩ = some (.int .u64 S.nextSend) ∧ w'.cell? ⟨x, q + 2, none⟩ = some (.int .u64 S.hd.nextRecv) ∧ w'.cell? ⟨x, q + 3, none⟩ = some (.map (some a.bp)) ∧ w'.cell? ⟨x, q + 8, none⟩ = some (.int .u64 S.hd.height) ∧ w'.cell? ⟨x, q + 9, none⟩ = some (.int .u64 S.hd.time) ∧ w'.cell? ⟨x, q + 11, none⟩ = some (.int .u64 S.locked) ∧ w'.cell? ⟨x, q + 12, none⟩ = some (.int .u64 S.about) ∧ w'.cell? ⟨x, q + 14, none⟩ = some (.int .u64 K.height))
    (first | go_keep | (refine ⟨?_, ?_, ?_, ?_, ?_, ?_, ?_, ?_, ?_⟩ <;> (rw [cell_far hne, cell_far hne, cell_far hne, cell_far hne, cell_far hne, cell_far hne, cell_far hne, cell_far hne, cell_far hne]; assumption)))
    (first
      | (go_at_call 33; refine hk.mono ?_; rintro e w3 ⟨rfl, rfl⟩)
      | (go_at_call 32; refine hs.mono ?_; rintro e w4 ⟨rfl, g4⟩; have h4 := h2.grown g4; obtain ⟨e0, e1, e2, e3, e4, e5, e6, e7, e8, e9, e10, e11, e12, e13, e14, e15, e16, e17, e18, e19, e20, e21, ef⟩ := dch_cells h4.blk hq; have hX4 := (g4.block _ zl2 (by simp)).trans hX2; have zl4 := blk_lt hX4; obtain ⟨y0, y1, y2, y3, y4, y5, y6, y7, y8, yf⟩ := blk9c hX4))
  go_wp2_with fail
  refine bodyPost_ret (v := .agg #[.int .u64 S.hd.height, .int .u64 S.hd.time, .int .u64 K.height, .bool S.hd.isOpen, .int .u64 S.nextSend, .int .u64 S.hd.nextRecv, .slice none 0 0, .int .u64 S.locked, .int .u64 S.about]) ?_ rfl ⟨rfl, ?_⟩
  · simp [results, Try.results21, go_sem, *]
  · have g4' : w.grownBy w4 none := grown_trans (grown_trans (grown_drew g1) g2 (fun k e => by cases e)) g4 (fun k e => by cases e)
    exact grown_set (grown_set (grown_set (grown_set (grown_set (grown_set (grown_set (grown_set (grown_set g4' _ _ (.inr (Nat.le_refl _))) _ _ (.inr (Nat.le_refl _))) _ _ (.inr (Nat.le_refl _))) _ _ (.inr (Nat.le_refl _))) _ _ (.inr (Nat.le_refl _))) _ _ (.inr (Nat.le_refl _))) _ _ (.inr (Nat.le_refl _))) _ _ (.inr (Nat.le_refl _))) _ _ (.inr (Nat.le_refl _))

set_option maxRecDepth 100000 in
theorem lookNo {c : Int} (h0 : c ≠ 0) (h1 : c ≠ 1) :
    Calls Try.prog 6 #[.pointer (some ⟨x, 0, none⟩), .int .i64 c] w fun e w' => e = .returned (.tuple #[lookZero, .int .i64 1]) ∧ w.grownBy w' none := by
  have hf := fun W => findNo (w := W) (x := x) h0 h1
  go_enter Try.func6, Try.ntmps6
  go_wp2_with fail
  refine (hf _).mono ?_
  rintro e w2 ⟨rfl, rfl⟩
  go_wp2_with fail
  refine bodyPost_ret (v := .tuple #[lookZero, .int .i64 1]) ?_ rfl ⟨rfl, World.grownBy_alloc w _ none⟩
  simp [results, Try.results6, go_sem]

set_option maxRecDepth 100000 in
set_option maxHeartbeats 1600000 in
theorem look0_none {m : Mod} {a0 a1 : DAt} {K0 K1 : Hd} (h : Br lab w x m a0 a1 K0 K1 B) (hp : m.c0.hd.packets = []) :
    Calls Try.prog 6 #[.pointer (some ⟨x, 0, none⟩), .int .i64 0] w fun e w' => e = .returned (.tuple #[.agg #[.int .u64 m.c0.hd.height, .int .u64 m.c0.hd.time, .int .u64 K0.height, .bool m.c0.hd.isOpen, .int .u64 m.c0.nextSend, .int .u64 m.c0.hd.nextRecv, .slice none 0 0, .int .u64 m.c0.locked, .int .u64 m.c0.about], .int .i64 0]) ∧ w.grownBy w' none := by
  obtain ⟨w1, hw1⟩ : ∃ w1 : World, w1 = w.alloc (.cells #[.int .u64 0, .int .u64 0, .int .u64 0, .bool false, .int .u64 0, .int .u64 0, .slice none 0 0, .int .u64 0, .int .u64 0] 28) := ⟨_, rfl⟩
  have g1 : w.grownBy w1 none := by rw [hw1]; exact World.grownBy_alloc _ _ _
  have hX1 : w1.heap[w.heap.size]? = some (.cells #[.int .u64 0, .int .u64 0, .int .u64 0, .bool false, .int .u64 0, .int .u64 0, .slice none 0 0, .int .u64 0, .int .u64 0] 28 (0, 0)) := by rw [hw1]; exact heap_alloc_new w _
  have h1 := h.grown g1
  have zl : w.heap.size < w1.heap.size := blk_lt hX1
  have hlk := look_none (q := 0) h1.c0 rfl hp
  go_enter Try.func6, Try.ntmps6
  go_wp2_with fail
  rw [← hw1]
  clear hw1
  refine (find0 h1).mono ?_
  rintro e w2 ⟨rfl, rfl⟩
  go_wp2_with fail
  refine hlk.mono ?_
  rintro e w3 ⟨rfl, g3⟩
  have hX3 := (g3.block _ zl (by simp)).trans hX1
  have zl3 := blk_lt hX3
  obtain ⟨y0, y1, y2, y3, y4, y5, y6, y7, y8, yf⟩ := blk9c hX3
  go_wp2_with fail
  refine bodyPost_ret (v := .tuple #[.agg #[.int .u64 m.c0.hd.height, .int .u64 m.c0.hd.time, .int .u64 K0.height, .bool m.c0.hd.isOpen, .int .u64 m.c0.nextSend, .int .u64 m.c0.hd.nextRecv, .slice none 0 0, .int .u64 m.c0.locked, .int .u64 m.c0.about], .int .i64 0]) ?_ rfl ⟨rfl, ?_⟩
  · simp [results, Try.results6, go_sem, *]
  · have g4' : w.grownBy w3 none := grown_trans g1 g3 (fun k e => by cases e)
    exact grown_set (grown_set (grown_set (grown_set (grown_set (grown_set (grown_set (grown_set (grown_set g4' _ _ (.inr (Nat.le_refl _))) _ _ (.inr (Nat.le_refl _))) _ _ (.inr (Nat.le_refl _))) _ _ (.inr (Nat.le_refl _))) _ _ (.inr (Nat.le_refl _))) _ _ (.inr (Nat.le_refl _))) _ _ (.inr (Nat.le_refl _))) _ _ (.inr (Nat.le_refl _))) _ _ (.inr (Nat.le_refl _))

set_option maxRecDepth 100000 in
set_option maxHeartbeats 1600000 in
theorem look1_none {m : Mod} {a0 a1 : DAt} {K0 K1 : Hd} (h : Br lab w x m a0 a1 K0 K1 B) (hp : m.c1.hd.packets = []) :
    Calls Try.prog 6 #[.pointer (some ⟨x, 0, none⟩), .int .i64 1] w fun e w' => e = .returned (.tuple #[.agg #[.int .u64 m.c1.hd.height, .int .u64 m.c1.hd.time, .int .u64 K1.height, .bool m.c1.hd.isOpen, .int .u64 m.c1.nextSend, .int .u64 m.c1.hd.nextRecv, .slice none 0 0, .int .u64 m.c1.locked, .int .u64 m.c1.about], .int .i64 0]) ∧ w.grownBy w' none := by
  obtain ⟨w1, hw1⟩ : ∃ w1 : World, w1 = w.alloc (.cells #[.int .u64 0, .int .u64 0, .int .u64 0, .bool false, .int .u64 0, .int .u64 0, .slice none 0 0, .int .u64 0, .int .u64 0] 28) := ⟨_, rfl⟩
  have g1 : w.grownBy w1 none := by rw [hw1]; exact World.grownBy_alloc _ _ _
  have hX1 : w1.heap[w.heap.size]? = some (.cells #[.int .u64 0, .int .u64 0, .int .u64 0, .bool false, .int .u64 0, .int .u64 0, .slice none 0 0, .int .u64 0, .int .u64 0] 28 (0, 0)) := by rw [hw1]; exact heap_alloc_new w _
  have h1 := h.grown g1
  have zl : w.heap.size < w1.heap.size := blk_lt hX1
  have hlk := look_none (q := 22) h1.c1 rfl hp
  go_enter Try.func6, Try.ntmps6
  go_wp2_with fail
  rw [← hw1]
  clear hw1
  refine (find1 h1).mono ?_
  rintro e w2 ⟨rfl, rfl⟩
  go_wp2_with fail
  refine hlk.mono ?_
  rintro e w3 ⟨rfl, g3⟩
  have hX3 := (g3.block _ zl (by simp)).trans hX1
  have zl3 := blk_lt hX3
  obtain ⟨y0, y1, y2, y3, y4, y5, y6, y7, y8, yf⟩ := blk9c hX3
  go_wp2_with fail
  refine bodyPost_ret (v := .tuple #[.agg #[.int .u64 m.c1.hd.height, .int .u64 m.c1.hd.time, .int .u64 K1.height, .bool m.c1.hd.isOpen, .int .u64 m.c1.nextSend, .int .u64 m.c1.hd.nextRecv, .slice none 0 0, .int .u64 m.c1.locked, .int .u64 m.c1.about], .int .i64 0]) ?_ rfl ⟨rfl, ?_⟩
  · simp [results, Try.results6, go_sem, *]
  · have g4' : w.grownBy w3 none := grown_trans g1 g3 (fun k e => by cases e)
    exact grown_set (grown_set (grown_set (grown_set (grown_set (grown_set (grown_set (grown_set (grown_set g4' _ _ (.inr (Nat.le_refl _))) _ _ (.inr (Nat.le_refl _))) _ _ (.inr (Nat.le_refl _))) _ _ (.inr (Nat.le_refl _))) _ _ (.inr (Nat.le_refl _))) _ _ (.inr (Nat.le_refl _))) _ _ (.inr (Nat.le_refl _))) _ _ (.inr (Nat.le_refl _))) _ _ (.inr (Nat.le_refl _))

end

end Go.Proofs.Ytmfdhcnnhlchbab

namespace Go.Proofs.Ytmfdhcnnhlchbab
open Go.RowKit Go.Maps

abbrev pk0 : Pk := ⟨0, 0, 0, 0, 0, 0, 0⟩

set_option maxRecDepth 100000 in
theorem packet_any {w : World} (a b c d e f : Int) : Calls Try.prog 15 #[.int .i64 a, .int .i64 b, .int .i64 c, .int .u64 d, .int .u64 e, .int .u64 f] w fun en w' => en = .returned (stepAgg 1 0 ⟨0, a, b, c, d, e, f⟩) ∧ w.grownBy w' none := by
  go_enter Try.func15, Try.ntmps15
  go_wp2_with fail
  refine bodyPost_ret (v := stepAgg 1 0 ⟨0, a, b, c, d, e, f⟩) ?_ rfl ⟨rfl, ?_⟩
  · simp [results, Try.results15, go_sem]
  · exact World.grownBy_alloc w _ none

set_option maxRecDepth 100000 in
theorem step_plain {w : World} (k n : Int) : Calls Try.prog 14 #[.int .i64 k, .int .u64 n] w fun en w' => en = .returned (stepAgg k n pk0) ∧ w.grownBy w' none := by
  go_enter Try.func14, Try.ntmps14
  go_wp2_with fail
  refine bodyPost_ret (v := stepAgg k n pk0) ?_ rfl ⟨rfl, ?_⟩
  · simp [results, Try.results14, go_sem]
  · exact World.grownBy_alloc w _ none

/-- A step, and what is to come of it. -/
structure Dos where
  c : Int
  k : Int
  n : Int
  p : Pk
  rn : Int
  re : Int

def Dos.cells (d : Dos) : List Value := [.int .i64 d.c, .int .i64 d.k, .int .u64 d.n, .int .u64 d.p.seq, .int .i64 d.p.src, .int .i64 d.p.dst, .int .i64 d.p.coin, .int .u64 d.p.amount, .int .u64 d.p.height, .int .u64 d.p.time, .int .u64 d.rn, .int .i64 d.re]

abbrev tDo : TypeId := 61

def stepD (m : Mod) (d : Dos) : Mod × Int × Int := if d.c = 0 then doM m 0 d.k d.n d.p else if d.c = 1 then doM m 1 d.k d.n d.p else (m, 0, 1)

def okD (m : Mod) : List Dos → Bool
  | [] => true
  | d :: r => decide ((stepD m d).2.1 = d.rn ∧ (stepD m d).2.2 = d.re ∧ 0 ≤ d.n ∧ d.n < 18446744073709551616) && okD (stepD m d).1 r

def runD (m : Mod) (l : List Dos) : Mod := l.foldl (fun m d => (stepD m d).1) m

theorem okD_at : ∀ (l : List Dos) (m : Mod) (k : Nat) (d : Dos), okD m l = true → l[k]? = some d → ((stepD (runD m (l.take k)) d).2.1 = d.rn ∧ (stepD (runD m (l.take k)) d).2.2 = d.re ∧ 0 ≤ d.n ∧ d.n < 18446744073709551616) ∧ runD m (l.take (k + 1)) = (stepD (runD m (l.take k)) d).1
  | [], m, k, d, _, h => by simp at h
  | b :: r, m, 0, d, ho, h => by
    simp at h
    subst h
    unfold okD at ho
    rw [Bool.and_eq_true, decide_eq_true_eq] at ho
    exact ⟨ho.1, rfl⟩
  | b :: r, m, k + 1, d, ho, h => by
    unfold okD at ho
    rw [Bool.and_eq_true] at ho
    exact okD_at r (stepD m b).1 k d ho.2 (by simpa using h)

theorem taken_doM (m : Mod) (c : Nat) (k n : Int) (p : Pk) (T : Int) (h : 0 ≤ m.taken ∧ m.taken ≤ T) : 0 ≤ (doM m c k n p).1.taken ∧ (doM m c k n p).1.taken ≤ T + 1 := by
  unfold doM
  split <;> (simp only []; split <;> omega)

theorem taken_step (m : Mod) (d : Dos) (T : Int) (h : 0 ≤ m.taken ∧ m.taken ≤ T) : 0 ≤ (stepD m d).1.taken ∧ (stepD m d).1.taken ≤ T + 1 := by
  unfold stepD
  split
  · exact taken_doM m 0 d.k d.n d.p T h
  · split
    · exact taken_doM m 1 d.k d.n d.p T h
    · exact ⟨h.1, by simp only []; omega⟩

theorem dos_at : ∀ (l : List Dos) (i j : Nat) (y : Dos), l[i]? = some y → j < 12 → (l.flatMap Dos.cells)[i * 12 + j]? = y.cells[j]?
  | [], i, j, y, h, _ => by simp at h
  | b :: r, 0, j, y, h, hj => by
    simp at h
    subst h
    have hl : b.cells.length = 12 := rfl
    simp only [List.flatMap_cons, Nat.zero_mul, Nat.zero_add]
    rw [List.getElem?_append_left (by omega)]
  | b :: r, i + 1, j, y, h, hj => by
    have hl : b.cells.length = 12 := rfl
    simp only [List.flatMap_cons]
    rw [List.getElem?_append_right (by omega), hl, show (i + 1) * 12 + j - 12 = i * 12 + j from by omega]
    exact dos_at r i j y (by simpa using h) hj

theorem dos_cells {w : World} {g i : Nat} {l : List Dos} {y : Dos} {t : TypeId} (hb : w.heap[g]? = some (.cells (l.flatMap Dos.cells).toArray t (0, 0))) (hi : l[i]? = some y) :
    w.cell? ⟨g, i * 12, none⟩ = some (.int .i64 y.c) ∧ w.cell? ⟨g, i * 12 + 1, none⟩ = some (.int .i64 y.k) ∧ w.cell? ⟨g, i * 12 + 2, none⟩ = some (.int .u64 y.n) ∧ w.cell? ⟨g, i * 12 + 3, none⟩ = some (.int .u64 y.p.seq) ∧ w.cell? ⟨g, i * 12 + 4, none⟩ = some (.int .i64 y.p.src) ∧ w.cell? ⟨g, i * 12 + 5, none⟩ = some (.int .i64 y.p.dst) ∧ w.cell? ⟨g, i * 12 + 6, none⟩ = some (.int .i64 y.p.coin) ∧ w.cell? ⟨g, i * 12 + 7, none⟩ = some (.int .u64 y.p.amount) ∧ w.cell? ⟨g, i * 12 + 8, none⟩ = some (.int .u64 y.p.height) ∧ w.cell? ⟨g, i * 12 + 9, none⟩ = some (.int .u64 y.p.time) ∧ w.cell? ⟨g, i * 12 + 10, none⟩ = some (.int .u64 y.rn) ∧ w.cell? ⟨g, i * 12 + 11, none⟩ = some (.int .i64 y.re) := by
  have key : ∀ j v, y.cells[j]? = some v → w.cell? ⟨g, i * 12 + j, none⟩ = some v := by
    intro j v hv
    have hj : j < 12 := by have := (List.getElem?_eq_some_iff.1 hv).1; simpa [Dos.cells] using this
    simp only [World.cell?, hb]
    have := dos_at l i j y hi hj
    rw [hv] at this
    simpa using this
  exact ⟨key 0 _ rfl, key 1 _ rfl, key 2 _ rfl, key 3 _ rfl, key 4 _ rfl, key 5 _ rfl, key 6 _ rfl, key 7 _ rfl, key 8 _ rfl, key 9 _ rfl, key 10 _ rfl, key 11 _ rfl⟩

section
variable {lab : Nat → Nat} {w : World} {x : Nat} {m : Mod} {a0 a1 : DAt} {K0 K1 : Hd} {B : Nat}

theorem Br.mono {B' : Nat} (h : Br lab w x m a0 a1 K0 K1 B) (hB : B ≤ B') : Br lab w x m a0 a1 K0 K1 B' := ⟨h.c0.mono hB, h.c1.mono hB, h.k0, h.k1, h.h0, h.h1, h.lx⟩

theorem do_any (h : Br lab w x m a0 a1 K0 K1 B) (hB : B ≤ 8000000) (ht : 0 ≤ m.taken ∧ m.taken ≤ 9000000) (d : Dos) (hn : 0 ≤ d.n ∧ d.n < 18446744073709551616) :
    Calls Try.prog 9 #[.pointer (some ⟨x, 0, none⟩), .int .i64 d.c, stepAgg d.k d.n d.p] w fun e w' => e = .returned (.tuple #[.int .u64 (stepD m d).2.1, .int .i64 (stepD m d).2.2]) ∧ BrTo lab w x (stepD m d).1 (B + 4) w' := by
  unfold stepD
  by_cases h0 : d.c = 0
  · rw [if_pos h0, h0]; exact do0 h hB ht hn
  · by_cases h1 : d.c = 1
    · rw [if_neg h0, if_pos h1, h1]; exact do1 h hB ht hn
    · rw [if_neg h0, if_neg h1]
      refine (doNo h0 h1).mono ?_
      rintro e w' ⟨rfl, g⟩
      exact ⟨rfl, _, a0, a1, K0, K1, (h.fresh g).mono (by omega), StepB.of (grown_stepL (l := 1) (x := x) g) (.inl rfl) (by rw [h.lx]; decide)⟩

/-- Behind k steps of a run. -/
def RunAt (x : Nat) (lab0 : Nat → Nat) (W : World) (m : Mod) (L : List Dos) (k : Nat) (wr : World) : Prop :=
  ∃ lab' a0 a1 K0 K1, Br lab' wr x (runD m (L.take k)) a0 a1 K0 K1 (6 + 4 * k) ∧ StepB x lab0 lab' W wr ∧ 0 ≤ (runD m (L.take k)).taken ∧ (runD m (L.take k)).taken ≤ k

theorem StepB.refl (x : Nat) (lab : Nat → Nat) (w : World) : StepB x lab lab w w := ⟨rfl, rfl, rfl, Nat.le_refl _, fun _ _ => rfl, fun _ _ _ => rfl, fun k h1 h2 => by omega⟩

theorem blk12c {w : World} {b t : Nat} {x0 x1 x2 x3 x4 x5 x6 x7 x8 x9 x10 x11 : Value} (h : w.heap[b]? = some (.cells #[x0, x1, x2, x3, x4, x5, x6, x7, x8, x9, x10, x11] t (0, 0))) :
    w.cell? ⟨b, 0, none⟩ = some x0 ∧ w.cell? ⟨b, 1, none⟩ = some x1 ∧ w.cell? ⟨b, 2, none⟩ = some x2 ∧ w.cell? ⟨b, 3, none⟩ = some x3 ∧ w.cell? ⟨b, 4, none⟩ = some x4 ∧ w.cell? ⟨b, 5, none⟩ = some x5 ∧ w.cell? ⟨b, 6, none⟩ = some x6 ∧ w.cell? ⟨b, 7, none⟩ = some x7 ∧ w.cell? ⟨b, 8, none⟩ = some x8 ∧ w.cell? ⟨b, 9, none⟩ = some x9 ∧ w.cell? ⟨b, 10, none⟩ = some x10 ∧ w.cell? ⟨b, 11, none⟩ = some x11 ∧ (∀ k, w.frozen? ⟨b, k, none⟩ = false) := by
  refine ⟨?_, ?_, ?_, ?_, ?_, ?_, ?_, ?_, ?_, ?_, ?_, ?_, ?_⟩
  all_goals first
    | (intro k; simp [World.frozen?, h])
    | simp [World.cell?, h]

abbrev Dos.arr (d : Dos) : Array Value := #[.int .i64 d.c, .int .i64 d.k, .int .u64 d.n, .int .u64 d.p.seq, .int .i64 d.p.src, .int .i64 d.p.dst, .int .i64 d.p.coin, .int .u64 d.p.amount, .int .u64 d.p.height, .int .u64 d.p.time, .int .u64 d.rn, .int .i64 d.re]

/-- One step of a run. -/
theorem run_step {lab0 : Nat → Nat} {W wr w1 : World} {L : List Dos} {k : Nat} {d : Dos} (hr : RunAt x lab0 W m L k wr) (hk : k ≤ 100) (ho : okD m L = true) (hd : L[k]? = some d) (g1 : wr.grownBy w1 none) :
    Calls Try.prog 9 #[.pointer (some ⟨x, 0, none⟩), .int .i64 d.c, stepAgg d.k d.n d.p] w1 fun e w' => e = .returned (.tuple #[.int .u64 d.rn, .int .i64 d.re]) ∧ RunAt x lab0 W m L (k + 1) w' ∧ (∀ z, wr.heap.size ≤ z → z < w1.heap.size → w'.heap[z]? = w1.heap[z]?) := by
  obtain ⟨lab', b0, b1, k0, k1, hb, st, t0, t1⟩ := hr
  obtain ⟨⟨e1, e2, n1⟩, e3⟩ := okD_at L m k d ho hd
  have hx := hb.lx
  refine (do_any (hb.fresh g1) (by omega) ⟨t0, by omega⟩ d n1).mono ?_
  rintro e w' ⟨rfl, lab2, c0, c1, l0, l1, hb2, st2⟩
  refine ⟨by rw [e1, e2], ⟨lab2, c0, c1, l0, l1, by rw [e3]; exact hb2, ?_, ?_⟩, fun z h1 h2 => st2.block z h2 (labN_new h1)⟩
  · exact (st.trans (StepB.of (grown_stepL (l := 1) (x := x) g1) (.inl rfl) (by rw [hx]; decide))).trans st2
  · have := taken_step (runD m (L.take k)) d k ⟨t0, t1⟩
    rw [e3]
    exact ⟨this.1, by have := this.2; omega⟩

/-- What was there ahead of New has not turned. -/
theorem run_grown {lab' : Nat → Nat} {w w0 W wr u : World} (h0 : w.grownBy w0 none) (hl : ∀ k, k < w.heap.size → lab k = 0) (hW : w0.grownBy W none) (st : StepB x (labN lab w0.heap.size) lab' W wr) (g : wr.grownBy u none) : w.grownBy u none := by
  have s1 := h0.size
  have s2 := hW.size
  refine ⟨g.os.trans (st.os.trans (hW.os.trans h0.os)), g.tape.trans (st.tape.trans (hW.tape.trans h0.tape)), g.output.trans (st.output.trans (hW.output.trans h0.output)), by have := g.size; have := st.size; omega, fun k hk _ => ?_⟩
  have e1 := h0.block k hk (by simp)
  have e2 := hW.block k (by omega) (by simp)
  have e3 := st.block k (by omega) (by rw [labN_old (by omega)]; exact hl k hk)
  have e4 := g.block k (by have := st.size; omega) (by simp)
  rw [e4, e3, e2, e1]

end

end Go.Proofs.Ytmfdhcnnhlchbab
