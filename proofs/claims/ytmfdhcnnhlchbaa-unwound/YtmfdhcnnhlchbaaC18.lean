import Derived.Test.YtmfdhcnnhlchbaaC03
import Derived.Test.YtmfdhcnnhlchbaaC16
import Derived.Test.YtmfdhcnnhlchbaaC17
import Derived.Deep.RegionHeld3
namespace Go.Proofs.Ytmfdhcnnhlchbaa
open Go.RowKit Go.Maps Go.Sort Go.Shelf

section
variable {lab : Nat → Nat} {l : Nat} {w : World} {x q : Nat} {pre post : List Value} {S : Ch} {K : Hd} {a : DAt} {B : Nat}

theorem size_none {D : DataW Value} (h : Maps.size D = 0) (k : Lit) : has D k = false := by
  cases D <;> simp_all [Maps.size, Maps.has]

theorem keys_plain (mb : Option Nat) (w : World) : Calls Try.prog 26 #[.map mb] w fun e w' => e = .returned (.func (.func 41) #[] #[.pointer (some ⟨w.heap.size, 0, none⟩)]) ∧ w' = w.alloc (.cells #[.map mb] 64) :=
  (callsIn_wide (n := 4)).1 (keys_call Fence.wide 4 trivial rfl mb w)

theorem sorted_empty {w : World} {b n : Nat} {f : Int → Option Value} (h : MapIs Try.prog tU64 encU w b f n) (hn : n = 0) (w1 : World) (hw1 : w1 = w.alloc (.cells #[.map (some b)] 64)) :
    Calls Try.prog 25 #[.func (.func 41) #[] #[.pointer (some ⟨w.heap.size, 0, none⟩)]] w1 fun e w' => e = .returned (.slice none 0 0) ∧ w1.grownBy w' none := by
  obtain ⟨D, hown, hsz, _⟩ := h
  have hD : Maps.size D = 0 := by rw [hsz, hn]
  have hbl := hown.lt
  subst hw1
  refine sorted_none (enters_of Try.func41 (by kernel_rfl) rfl) (N := Maps.size D) (by rw [hD]; exact Nat.zero_le _) (by rw [hD]; omega) _
    (keys_stops Fence.wide 2 trivial rfl (by omega) w.heap.size b n D _ (by simp) (by simp) ?_) ?_
  · obtain ⟨es, clock, hb, Ft, hs, hDD⟩ := hown
    exact ⟨es, clock, (Below.heap_alloc _ _ b hbl).trans hb, Ft, hs, hDD⟩
  · rintro ss ⟨_, h2⟩
    cases ss with
    | nil => rfl
    | cons y r =>
      have := (h2 y).1 (by simp)
      rw [size_none hD] at this
      cases this

set_option maxRecDepth 100000 in
set_option maxHeartbeats 1600000 in
theorem look_none (h : DevCh lab l w x pre post S K a B) (hq : pre.length = q) (hp : S.hd.packets = []) : Calls Try.prog 20 #[.pointer (some ⟨x, q, none⟩)] w fun e w' => e = .returned (.agg #[.int .u64 S.hd.height, .int .u64 S.hd.time, .int .u64 K.height, .bool S.hd.isOpen, .int .u64 S.nextSend, .int .u64 S.hd.nextRecv, .slice none 0 0, .int .u64 S.locked, .int .u64 S.about]) ∧ w.grownBy w' none := by
  have hxl := blk_lt h.blk
  obtain ⟨w1, hw1⟩ : ∃ w1 : World, w1 = w.alloc (.cells #[.int .u64 0, .int .u64 0, .int .u64 0, .bool false, .int .u64 0, .int .u64 0, .slice none 0 0, .int .u64 0, .int .u64 0] 49) := ⟨_, rfl⟩
  have g1 : w.grownBy w1 none := by rw [hw1]; exact World.grownBy_alloc _ _ _
  have hX1 : w1.heap[w.heap.size]? = some (.cells #[.int .u64 0, .int .u64 0, .int .u64 0, .bool false, .int .u64 0, .int .u64 0, .slice none 0 0, .int .u64 0, .int .u64 0] 49 (0, 0)) := by rw [hw1]; exact heap_alloc_new w _
  have h1 := h.grown (grown_drew g1)
  have zl : w.heap.size < w1.heap.size := blk_lt hX1
  have hne : x ≠ w.heap.size := by omega
  have hk := keys_plain (some a.bp) w1.drew
  obtain ⟨w2, hw2⟩ : ∃ w2 : World, w2 = w1.drew.alloc (.cells #[.map (some a.bp)] 64) := ⟨_, rfl⟩
  have g2 : w1.drew.grownBy w2 none := by rw [hw2]; exact World.grownBy_alloc _ _ _
  have hs := sorted_empty h1.pend (by simp [hp]) w2 hw2
  rw [← hw2] at hk
  clear hw2
  have h2 := h1.grown g2
  obtain ⟨c0, c1, c2, c3, c4, c5, c6, c7, c8, c9, c10, c11, c12, c13, c14, c15, c16, c17, c18, c19, c20, c21, cf⟩ := dch_cells h1.blk hq
  obtain ⟨d0, d1, d2, d3, d4, d5, d6, d7, d8, d9, d10, d11, d12, d13, d14, d15, d16, d17, d18, d19, d20, d21, df⟩ := dch_cells h2.blk hq
  clear c4 c5 c6 c7 c10 c13 c15 c16 c17 c18 c19 c20 c21 cf d4 d5 d6 d7 d10 d13 d15 d16 d17 d18 d19 d20 d21 df
  have hX2 := (g2.block _ zl (by simp)).trans hX1
  have zl2 := blk_lt hX2
  obtain ⟨x0, x1, x2, x3, x4, x5, x6, x7, x8, xf⟩ := blk9c hX2
  go_enter Try.func20, Try.ntmps20
  go_wp2_with fail
  rw [← hw1]
  clear hw1
  go_region_held3 (fun w' => w'.cell? ⟨x, q, none⟩ = some (.bool S.hd.isOpen) ∧ w'.cell? ⟨x, q + 1, none⟩ = some (.int .u64 S.nextSend) ∧ w'.cell? ⟨x, q + 2, none⟩ = some (.int .u64 S.hd.nextRecv) ∧ w'.cell? ⟨x, q + 3, none⟩ = some (.map (some a.bp)) ∧ w'.cell? ⟨x, q + 8, none⟩ = some (.int .u64 S.hd.height) ∧ w'.cell? ⟨x, q + 9, none⟩ = some (.int .u64 S.hd.time) ∧ w'.cell? ⟨x, q + 11, none⟩ = some (.int .u64 S.locked) ∧ w'.cell? ⟨x, q + 12, none⟩ = some (.int .u64 S.about) ∧ w'.cell? ⟨x, q + 14, none⟩ = some (.int .u64 K.height))
    (first | go_keep | (refine ⟨?_, ?_, ?_, ?_, ?_, ?_, ?_, ?_, ?_⟩ <;> (rw [cell_far hne, cell_far hne, cell_far hne, cell_far hne, cell_far hne, cell_far hne, cell_far hne, cell_far hne, cell_far hne]; assumption)))
    (first
      | (go_at_call 26; refine hk.mono ?_; rintro e w3 ⟨rfl, rfl⟩)
      | (go_at_call 25; refine hs.mono ?_; rintro e w4 ⟨rfl, g4⟩; have h4 := h2.grown g4; obtain ⟨e0, e1, e2, e3, e4, e5, e6, e7, e8, e9, e10, e11, e12, e13, e14, e15, e16, e17, e18, e19, e20, e21, ef⟩ := dch_cells h4.blk hq; have hX4 := (g4.block _ zl2 (by simp)).trans hX2; have zl4 := blk_lt hX4; obtain ⟨y0, y1, y2, y3, y4, y5, y6, y7, y8, yf⟩ := blk9c hX4))
  go_wp2_with fail
  refine bodyPost_ret (v := .agg #[.int .u64 S.hd.height, .int .u64 S.hd.time, .int .u64 K.height, .bool S.hd.isOpen, .int .u64 S.nextSend, .int .u64 S.hd.nextRecv, .slice none 0 0, .int .u64 S.locked, .int .u64 S.about]) ?_ rfl ⟨rfl, ?_⟩
  · simp [results, Try.results20, go_sem, *]
  · have g4' : w.grownBy w4 none := grown_trans (grown_trans (grown_drew g1) g2 (fun k e => by cases e)) g4 (fun k e => by cases e)
    exact grown_set (grown_set (grown_set (grown_set (grown_set (grown_set (grown_set (grown_set (grown_set g4' _ _ (.inr (Nat.le_refl _))) _ _ (.inr (Nat.le_refl _))) _ _ (.inr (Nat.le_refl _))) _ _ (.inr (Nat.le_refl _))) _ _ (.inr (Nat.le_refl _))) _ _ (.inr (Nat.le_refl _))) _ _ (.inr (Nat.le_refl _))) _ _ (.inr (Nat.le_refl _))) _ _ (.inr (Nat.le_refl _))

set_option maxRecDepth 100000 in
theorem lookNo {c : Int} (h0 : c ≠ 0) (h1 : c ≠ 1) :
    Calls Try.prog 13 #[.pointer (some ⟨x, 0, none⟩), .int .i64 c] w fun e w' => e = .returned (.tuple #[lookZero, .int .i64 1]) ∧ w.grownBy w' none := by
  have hf := fun W => findNo (w := W) (x := x) h0 h1
  go_enter Try.func13, Try.ntmps13
  go_wp2_with fail
  refine (hf _).mono ?_
  rintro e w2 ⟨rfl, rfl⟩
  go_wp2_with fail
  refine bodyPost_ret (v := .tuple #[lookZero, .int .i64 1]) ?_ rfl ⟨rfl, World.grownBy_alloc w _ none⟩
  simp [results, Try.results13, go_sem]

set_option maxRecDepth 100000 in
set_option maxHeartbeats 1600000 in
theorem look0_none {m : Mod} {a0 a1 : DAt} {K0 K1 : Hd} (h : Br lab w x m a0 a1 K0 K1 B) (hp : m.c0.hd.packets = []) :
    Calls Try.prog 13 #[.pointer (some ⟨x, 0, none⟩), .int .i64 0] w fun e w' => e = .returned (.tuple #[.agg #[.int .u64 m.c0.hd.height, .int .u64 m.c0.hd.time, .int .u64 K0.height, .bool m.c0.hd.isOpen, .int .u64 m.c0.nextSend, .int .u64 m.c0.hd.nextRecv, .slice none 0 0, .int .u64 m.c0.locked, .int .u64 m.c0.about], .int .i64 0]) ∧ w.grownBy w' none := by
  obtain ⟨w1, hw1⟩ : ∃ w1 : World, w1 = w.alloc (.cells #[.int .u64 0, .int .u64 0, .int .u64 0, .bool false, .int .u64 0, .int .u64 0, .slice none 0 0, .int .u64 0, .int .u64 0] 49) := ⟨_, rfl⟩
  have g1 : w.grownBy w1 none := by rw [hw1]; exact World.grownBy_alloc _ _ _
  have hX1 : w1.heap[w.heap.size]? = some (.cells #[.int .u64 0, .int .u64 0, .int .u64 0, .bool false, .int .u64 0, .int .u64 0, .slice none 0 0, .int .u64 0, .int .u64 0] 49 (0, 0)) := by rw [hw1]; exact heap_alloc_new w _
  have h1 := h.grown g1
  have zl : w.heap.size < w1.heap.size := blk_lt hX1
  have hlk := look_none (q := 0) h1.c0 rfl hp
  go_enter Try.func13, Try.ntmps13
  go_wp2_with fail
  rw [← hw1]
  clear hw1
  refine (find0 h1).mono ?_
  rintro e w2 ⟨rfl, rfl⟩
  go_wp2_with fail
  refine hlk.mono ?_
  rintro e w3 ⟨rfl, g3⟩
  have hX3 := (g3.block _ zl (by simp)).trans hX1
  have zl3 := blk_lt hX3
  obtain ⟨y0, y1, y2, y3, y4, y5, y6, y7, y8, yf⟩ := blk9c hX3
  go_wp2_with fail
  refine bodyPost_ret (v := .tuple #[.agg #[.int .u64 m.c0.hd.height, .int .u64 m.c0.hd.time, .int .u64 K0.height, .bool m.c0.hd.isOpen, .int .u64 m.c0.nextSend, .int .u64 m.c0.hd.nextRecv, .slice none 0 0, .int .u64 m.c0.locked, .int .u64 m.c0.about], .int .i64 0]) ?_ rfl ⟨rfl, ?_⟩
  · simp [results, Try.results13, go_sem, *]
  · have g4' : w.grownBy w3 none := grown_trans g1 g3 (fun k e => by cases e)
    exact grown_set (grown_set (grown_set (grown_set (grown_set (grown_set (grown_set (grown_set (grown_set g4' _ _ (.inr (Nat.le_refl _))) _ _ (.inr (Nat.le_refl _))) _ _ (.inr (Nat.le_refl _))) _ _ (.inr (Nat.le_refl _))) _ _ (.inr (Nat.le_refl _))) _ _ (.inr (Nat.le_refl _))) _ _ (.inr (Nat.le_refl _))) _ _ (.inr (Nat.le_refl _))) _ _ (.inr (Nat.le_refl _))

set_option maxRecDepth 100000 in
set_option maxHeartbeats 1600000 in
theorem look1_none {m : Mod} {a0 a1 : DAt} {K0 K1 : Hd} (h : Br lab w x m a0 a1 K0 K1 B) (hp : m.c1.hd.packets = []) :
    Calls Try.prog 13 #[.pointer (some ⟨x, 0, none⟩), .int .i64 1] w fun e w' => e = .returned (.tuple #[.agg #[.int .u64 m.c1.hd.height, .int .u64 m.c1.hd.time, .int .u64 K1.height, .bool m.c1.hd.isOpen, .int .u64 m.c1.nextSend, .int .u64 m.c1.hd.nextRecv, .slice none 0 0, .int .u64 m.c1.locked, .int .u64 m.c1.about], .int .i64 0]) ∧ w.grownBy w' none := by
  obtain ⟨w1, hw1⟩ : ∃ w1 : World, w1 = w.alloc (.cells #[.int .u64 0, .int .u64 0, .int .u64 0, .bool false, .int .u64 0, .int .u64 0, .slice none 0 0, .int .u64 0, .int .u64 0] 49) := ⟨_, rfl⟩
  have g1 : w.grownBy w1 none := by rw [hw1]; exact World.grownBy_alloc _ _ _
  have hX1 : w1.heap[w.heap.size]? = some (.cells #[.int .u64 0, .int .u64 0, .int .u64 0, .bool false, .int .u64 0, .int .u64 0, .slice none 0 0, .int .u64 0, .int .u64 0] 49 (0, 0)) := by rw [hw1]; exact heap_alloc_new w _
  have h1 := h.grown g1
  have zl : w.heap.size < w1.heap.size := blk_lt hX1
  have hlk := look_none (q := 22) h1.c1 rfl hp
  go_enter Try.func13, Try.ntmps13
  go_wp2_with fail
  rw [← hw1]
  clear hw1
  refine (find1 h1).mono ?_
  rintro e w2 ⟨rfl, rfl⟩
  go_wp2_with fail
  refine hlk.mono ?_
  rintro e w3 ⟨rfl, g3⟩
  have hX3 := (g3.block _ zl (by simp)).trans hX1
  have zl3 := blk_lt hX3
  obtain ⟨y0, y1, y2, y3, y4, y5, y6, y7, y8, yf⟩ := blk9c hX3
  go_wp2_with fail
  refine bodyPost_ret (v := .tuple #[.agg #[.int .u64 m.c1.hd.height, .int .u64 m.c1.hd.time, .int .u64 K1.height, .bool m.c1.hd.isOpen, .int .u64 m.c1.nextSend, .int .u64 m.c1.hd.nextRecv, .slice none 0 0, .int .u64 m.c1.locked, .int .u64 m.c1.about], .int .i64 0]) ?_ rfl ⟨rfl, ?_⟩
  · simp [results, Try.results13, go_sem, *]
  · have g4' : w.grownBy w3 none := grown_trans g1 g3 (fun k e => by cases e)
    exact grown_set (grown_set (grown_set (grown_set (grown_set (grown_set (grown_set (grown_set (grown_set g4' _ _ (.inr (Nat.le_refl _))) _ _ (.inr (Nat.le_refl _))) _ _ (.inr (Nat.le_refl _))) _ _ (.inr (Nat.le_refl _))) _ _ (.inr (Nat.le_refl _))) _ _ (.inr (Nat.le_refl _))) _ _ (.inr (Nat.le_refl _))) _ _ (.inr (Nat.le_refl _))) _ _ (.inr (Nat.le_refl _))

end

end Go.Proofs.Ytmfdhcnnhlchbaa
