import Derived.Test.YtmfdhcnnhlchbaaC28
namespace Go.Proofs.Ytmfdhcnnhlchbaa
open Go.RowKit Go.Maps Go.Sort Go.Shelf

/-- What Look hands back of a chain: the list of pending numbers lies in memory of its own. -/
def LookPost (S : Ch) (K : Hd) (w : World) (e : Ending) (w' : World) : Prop :=
  ∃ al cl, e = .returned (.agg #[.int .u64 S.hd.height, .int .u64 S.hd.time, .int .u64 K.height, .bool S.hd.isOpen, .int .u64 S.nextSend, .int .u64 S.hd.nextRecv, .slice al S.hd.packets.length cl, .int .u64 S.locked, .int .u64 S.about]) ∧
    w'.ownsRow 0 tU64 1 (.slice al S.hd.packets.length cl) S.hd.packets.length (S.hd.packets.map fun p => .int .u64 p.seq) ∧ (al = none → cl = 0) ∧ (∀ k, (Value.slice al S.hd.packets.length cl).ownBlock = some k → w.heap.size ≤ k) ∧ w.grownBy w' none

theorem LookPost.mk {S : Ch} {K : Hd} {w : World} {e : Ending} {w' : World} {al : Option Addr} {cl : Nat} (h1 : e = .returned (.agg #[.int .u64 S.hd.height, .int .u64 S.hd.time, .int .u64 K.height, .bool S.hd.isOpen, .int .u64 S.nextSend, .int .u64 S.hd.nextRecv, .slice al S.hd.packets.length cl, .int .u64 S.locked, .int .u64 S.about]))
    (h2 : w'.ownsRow 0 tU64 1 (.slice al S.hd.packets.length cl) S.hd.packets.length (S.hd.packets.map fun p => .int .u64 p.seq)) (h3 : al = none → cl = 0) (h4 : ∀ k, (Value.slice al S.hd.packets.length cl).ownBlock = some k → w.heap.size ≤ k) (h5 : w.grownBy w' none) : LookPost S K w e w' := ⟨al, cl, h1, h2, h3, h4, h5⟩

section
variable {lab : Nat → Nat} {l : Nat} {w : World} {x q : Nat} {pre post : List Value} {S : Ch} {K : Hd} {a : DAt} {B : Nat}

set_option maxRecDepth 100000 in
set_option maxHeartbeats 1600000 in
theorem look_any (h : DevCh lab l w x pre post S K a B) (hq : pre.length = q) (hB : B < 16777216) : Calls Try.prog 20 #[.pointer (some ⟨x, q, none⟩)] w fun e w' => LookPost S K w e w' := by
  have hxl := blk_lt h.blk
  obtain ⟨w1, hw1⟩ : ∃ w1 : World, w1 = w.alloc (.cells #[.int .u64 0, .int .u64 0, .int .u64 0, .bool false, .int .u64 0, .int .u64 0, .slice none 0 0, .int .u64 0, .int .u64 0] 49) := ⟨_, rfl⟩
  have g1 : w.grownBy w1 none := by rw [hw1]; exact World.grownBy_alloc _ _ _
  have hX1 : w1.heap[w.heap.size]? = some (.cells #[.int .u64 0, .int .u64 0, .int .u64 0, .bool false, .int .u64 0, .int .u64 0, .slice none 0 0, .int .u64 0, .int .u64 0] 49 (0, 0)) := by rw [hw1]; exact heap_alloc_new w _
  have h1 := h.grown (grown_drew g1)
  have zl : w.heap.size < w1.heap.size := blk_lt hX1
  have hne : x ≠ w.heap.size := by omega
  have hk := keys_plain (some a.bp) w1.drew
  obtain ⟨w2, hw2⟩ : ∃ w2 : World, w2 = w1.drew.alloc (.cells #[.map (some a.bp)] 64) := ⟨_, rfl⟩
  have g2 : w1.drew.grownBy w2 none := by rw [hw2]; exact World.grownBy_alloc _ _ _
  have hs := sorted_pend h1.pend h.good.hd.seqs h.good.hd.pos hB h.good.hd.lp w2 hw2
  rw [← hw2] at hk
  clear hw2
  have h2 := h1.grown g2
  obtain ⟨c0, c1, c2, c3, c4, c5, c6, c7, c8, c9, c10, c11, c12, c13, c14, c15, c16, c17, c18, c19, c20, c21, cf⟩ := dch_cells h1.blk hq
  obtain ⟨d0, d1, d2, d3, d4, d5, d6, d7, d8, d9, d10, d11, d12, d13, d14, d15, d16, d17, d18, d19, d20, d21, df⟩ := dch_cells h2.blk hq
  clear c4 c5 c6 c7 c10 c13 c15 c16 c17 c18 c19 c20 c21 cf d4 d5 d6 d7 d10 d13 d15 d16 d17 d18 d19 d20 d21 df
  have hX2 := (g2.block _ zl (by simp)).trans hX1
  have zl2 := blk_lt hX2
  obtain ⟨x0, x1, x2, x3, x4, x5, x6, x7, x8, xf⟩ := blk9c hX2
  go_enter Try.func20, Try.ntmps20
  go_wp2_with fail
  rw [← hw1]
  clear hw1
  go_region_held3 (fun w' => w'.cell? ⟨x, q, none⟩ = some (.bool S.hd.isOpen) ∧ w'.cell? ⟨x, q + 1, none⟩ = some (.int .u64 S.nextSend) ∧ w'.cell? ⟨x, q + 2, none⟩ = some (.int .u64 S.hd.nextRecv) ∧ w'.cell? ⟨x, q + 3, none⟩ = some (.map (some a.bp)) ∧ w'.cell? ⟨x, q + 8, none⟩ = some (.int .u64 S.hd.height) ∧ w'.cell? ⟨x, q + 9, none⟩ = some (.int .u64 S.hd.time) ∧ w'.cell? ⟨x, q + 11, none⟩ = some (.int .u64 S.locked) ∧ w'.cell? ⟨x, q + 12, none⟩ = some (.int .u64 S.about) ∧ w'.cell? ⟨x, q + 14, none⟩ = some (.int .u64 K.height))
    (first | go_keep | (refine ⟨?_, ?_, ?_, ?_, ?_, ?_, ?_, ?_, ?_⟩ <;> (rw [cell_far hne, cell_far hne, cell_far hne, cell_far hne, cell_far hne, cell_far hne, cell_far hne, cell_far hne, cell_far hne]; assumption)))
    (first
      | (go_at_call 26; refine hk.mono ?_; rintro e w3 ⟨rfl, rfl⟩)
      | (go_at_call 25; refine hs.mono ?_; rintro e w4 ⟨al, cl, rfl, hrow, hnil, g4⟩; have h4 := h2.grown g4; obtain ⟨e0, e1, e2, e3, e4, e5, e6, e7, e8, e9, e10, e11, e12, e13, e14, e15, e16, e17, e18, e19, e20, e21, ef⟩ := dch_cells h4.blk hq; have hX4 := (g4.block _ zl2 (by simp)).trans hX2; have zl4 := blk_lt hX4; obtain ⟨y0, y1, y2, y3, y4, y5, y6, y7, y8, yf⟩ := blk9c hX4))
  go_wp2_with fail
  refine bodyPost_ret (v := .agg #[.int .u64 S.hd.height, .int .u64 S.hd.time, .int .u64 K.height, .bool S.hd.isOpen, .int .u64 S.nextSend, .int .u64 S.hd.nextRecv, .slice al S.hd.packets.length cl, .int .u64 S.locked, .int .u64 S.about]) ?_ rfl (LookPost.mk rfl ?_ hnil ?_ ?_)
  · simp [results, Try.results20, go_sem, *]
  · refine owns_keep (owns_base hrow) (fun k hk => ?_)
    have hk1 := (hrow.lt k hk).1
    have hk2 : k ≠ w.heap.size := by omega
    rw [setCell_other _ _ _ hk2, setCell_other _ _ _ hk2, setCell_other _ _ _ hk2, setCell_other _ _ _ hk2, setCell_other _ _ _ hk2, setCell_other _ _ _ hk2, setCell_other _ _ _ hk2, setCell_other _ _ _ hk2, setCell_other _ _ _ hk2]
  · intro k hk
    have hk1 := (hrow.lt k hk).1
    omega
  · have g4' : w.grownBy w4 none := grown_trans (grown_trans (grown_drew g1) g2 (fun k e => by cases e)) g4 (fun k e => by cases e)
    exact grown_set (grown_set (grown_set (grown_set (grown_set (grown_set (grown_set (grown_set (grown_set g4' _ _ (.inr (Nat.le_refl _))) _ _ (.inr (Nat.le_refl _))) _ _ (.inr (Nat.le_refl _))) _ _ (.inr (Nat.le_refl _))) _ _ (.inr (Nat.le_refl _))) _ _ (.inr (Nat.le_refl _))) _ _ (.inr (Nat.le_refl _))) _ _ (.inr (Nat.le_refl _))) _ _ (.inr (Nat.le_refl _))


end

end Go.Proofs.Ytmfdhcnnhlchbaa
