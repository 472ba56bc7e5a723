import Derived.Test.YtmfdhcnnhlchbaaC11
import Derived.Test.YtmfdhcnnhlchbaaC14
namespace Go.Proofs.Ytmfdhcnnhlchbaa
open Go.RowKit Go.Maps

section
variable {lab : Nat → Nat} {w : World} {x : Nat} {m : Mod} {a0 a1 : DAt} {K0 K1 : Hd} {B : Nat}

set_option maxRecDepth 100000 in
theorem balance0 (h : Br lab w x m a0 a1 K0 K1 B) {user coin : Int} (hu : -9223372036854775808 ≤ user ∧ user ≤ 9223372036854775807) (hc : -9223372036854775808 ≤ coin ∧ coin ≤ 9223372036854775807) :
    Calls Try.prog 15 #[.pointer (some ⟨x, 0, none⟩), .int .i64 0, .int .i64 user, .int .i64 coin] w fun e w' => e = .returned (.int .u64 (balM m 0 user coin)) ∧ w' = w := by
  obtain ⟨c0, c1, c2, c3, c4, c5, c6, c7, c8, c9, c10, c11, c12, c13, c14, c15, c16, c17, c18, c19, c20, c21, cf⟩ := dch_cells (q := 0) h.c0.blk rfl
  simp only [Nat.zero_add] at c10
  clear c0 c1 c2 c3 c4 c5 c6 c7 c8 c9 c11 c12 c13 c14 c15 c16 c17 c18 c19 c20 c21 cf
  have hf := find0 h
  obtain ⟨kl, hkl⟩ := keyH hu.1 hu.2 hc.1 hc.2
  have hv : (a0.ff (user, coin)).getD (.int .u64 0) = .int .u64 (balM m 0 user coin) := by
    rw [h.c0.fok user coin]
    unfold balM chainOf
    simp
  go_enter Try.func15, Try.ntmps15
  go_wp2_with fail
  refine hf.mono ?_
  rintro e w2 ⟨rfl, rfl⟩
  go_wp2_with (at_lookup; refine wpList_map_look rfl _ _ 70 rfl 28 lawH Try.underlying70 Try.zeroValue28 rfl h.c0.fund (user, coin) kl rfl hkl _ hv ?_)
  go_ret
  exact ⟨rfl, rfl⟩

set_option maxRecDepth 100000 in
theorem balance1 (h : Br lab w x m a0 a1 K0 K1 B) {user coin : Int} (hu : -9223372036854775808 ≤ user ∧ user ≤ 9223372036854775807) (hc : -9223372036854775808 ≤ coin ∧ coin ≤ 9223372036854775807) :
    Calls Try.prog 15 #[.pointer (some ⟨x, 0, none⟩), .int .i64 1, .int .i64 user, .int .i64 coin] w fun e w' => e = .returned (.int .u64 (balM m 1 user coin)) ∧ w' = w := by
  obtain ⟨c0, c1, c2, c3, c4, c5, c6, c7, c8, c9, c10, c11, c12, c13, c14, c15, c16, c17, c18, c19, c20, c21, cf⟩ := dch_cells (q := 22) h.c1.blk rfl
  simp only [Nat.reduceAdd] at c10
  clear c0 c1 c2 c3 c4 c5 c6 c7 c8 c9 c11 c12 c13 c14 c15 c16 c17 c18 c19 c20 c21 cf
  have hf := find1 h
  obtain ⟨kl, hkl⟩ := keyH hu.1 hu.2 hc.1 hc.2
  have hv : (a1.ff (user, coin)).getD (.int .u64 0) = .int .u64 (balM m 1 user coin) := by
    rw [h.c1.fok user coin]
    unfold balM chainOf
    simp
  go_enter Try.func15, Try.ntmps15
  go_wp2_with fail
  refine hf.mono ?_
  rintro e w2 ⟨rfl, rfl⟩
  go_wp2_with (at_lookup; refine wpList_map_look rfl _ _ 70 rfl 28 lawH Try.underlying70 Try.zeroValue28 rfl h.c1.fund (user, coin) kl rfl hkl _ hv ?_)
  go_ret
  exact ⟨rfl, rfl⟩

set_option maxRecDepth 100000 in
theorem balanceNo {c user coin : Int} (h0 : c ≠ 0) (h1 : c ≠ 1) :
    Calls Try.prog 15 #[.pointer (some ⟨x, 0, none⟩), .int .i64 c, .int .i64 user, .int .i64 coin] w fun e w' => e = .returned (.int .u64 0) ∧ w' = w := by
  have hf := findNo (w := w) (x := x) h0 h1
  go_enter Try.func15, Try.ntmps15
  go_wp2_with fail
  refine hf.mono ?_
  rintro e w2 ⟨rfl, rfl⟩
  go_wp2_with fail
  go_ret
  exact ⟨rfl, rfl⟩

end

end Go.Proofs.Ytmfdhcnnhlchbaa

namespace Go.Proofs.Ytmfdhcnnhlchbaa
open Go.RowKit Go.Maps

section
variable {lab : Nat → Nat} {w : World} {x : Nat} {m : Mod} {a0 a1 : DAt} {K0 K1 : Hd} {B : Nat}

end

end Go.Proofs.Ytmfdhcnnhlchbaa

namespace Go.Proofs.Ytmfdhcnnhlchbaa
open Go.RowKit Go.Maps

section
variable {lab : Nat → Nat} {w : World} {x : Nat} {m : Mod} {a0 a1 : DAt} {K0 K1 : Hd} {B : Nat} {k n : Int} {p : Pk}

set_option maxRecDepth 100000 in
theorem othersNo {c : Int} (h0 : c ≠ 0) (h1 : c ≠ 1) :
    Calls Try.prog 18 #[.pointer (some ⟨x, 0, none⟩), .int .i64 c] w fun e w' => e = .returned (.slice none 0 0) ∧ w' = w := by
  go_enter Try.func18, Try.ntmps18
  go_wp2_with fail
  refine (findNo h0 h1).mono ?_
  rintro e w2 ⟨rfl, rfl⟩
  go_wp2_with fail
  go_ret
  exact ⟨rfl, rfl⟩

set_option maxRecDepth 100000 in
theorem bstepNo {c : Int} (h0 : c ≠ 0) (h1 : c ≠ 1) {ao : Option Addr} {ln ch : Nat} :
    Calls Try.prog 17 #[.pointer (some ⟨x, 0, none⟩), .int .i64 c, stepAgg k n p, .slice ao ln ch] w fun e w' => e = .returned (.tuple #[.int .u64 0, .int .i64 1]) ∧ w.grownBy w' none := by
  go_enter Try.func17, Try.ntmps17
  go_wp2_with fail
  refine (findNo h0 h1).mono ?_
  rintro e w2 ⟨rfl, rfl⟩
  go_wp2_with fail
  go_ret2
  exact ⟨rfl, World.grownBy_alloc _ _ _⟩

set_option maxRecDepth 100000 in
theorem doNo {c : Int} (h0 : c ≠ 0) (h1 : c ≠ 1) :
    Calls Try.prog 10 #[.pointer (some ⟨x, 0, none⟩), .int .i64 c, stepAgg k n p] w fun e w' => e = .returned (.tuple #[.int .u64 0, .int .i64 1]) ∧ w.grownBy w' none := by
  obtain ⟨w1, hw1⟩ : ∃ w1 : World, w1 = w.alloc (.cells (stepArr k n p) 45) := ⟨_, rfl⟩
  have g1 : w.grownBy w1 none := by rw [hw1]; exact World.grownBy_alloc _ _ _
  have hX1 : w1.heap[w.heap.size]? = some (.cells (stepArr k n p) 45 (0, 0)) := by rw [hw1]; exact heap_alloc_new w _
  obtain ⟨x0, x1, x2, x3, x4, x5, x6, x7, x8, xf⟩ := blk9c hX1
  have hzl : w.heap.size < w1.heap.size := blk_lt hX1
  have hoth := othersNo (w := w1.drew) (x := x) h0 h1
  have hstep := bstepNo (w := w1.drew) (x := x) (k := k) (n := n) (p := p) h0 h1 (ao := none) (ln := 0) (ch := 0)
  go_enter Try.func10, Try.ntmps10
  go_wp2_with fail
  rw [← hw1]
  clear hw1
  go_region_held3 (fun w' => w'.cell? ⟨w.heap.size, 0, none⟩ = some (.int .i64 k) ∧ w'.cell? ⟨w.heap.size, 1, none⟩ = some (.int .u64 n) ∧ w'.cell? ⟨w.heap.size, 2, none⟩ = some (.int .u64 p.seq) ∧ w'.cell? ⟨w.heap.size, 3, none⟩ = some (.int .i64 p.src) ∧ w'.cell? ⟨w.heap.size, 4, none⟩ = some (.int .i64 p.dst) ∧ w'.cell? ⟨w.heap.size, 5, none⟩ = some (.int .i64 p.coin) ∧ w'.cell? ⟨w.heap.size, 6, none⟩ = some (.int .u64 p.amount) ∧ w'.cell? ⟨w.heap.size, 7, none⟩ = some (.int .u64 p.height) ∧ w'.cell? ⟨w.heap.size, 8, none⟩ = some (.int .u64 p.time)) (go_keep)
    (first
      | (go_at_call 18; refine hoth.mono ?_; rintro e w2 ⟨rfl, rfl⟩)
      | (go_at_call 17; refine hstep.mono ?_; rintro e w3 ⟨rfl, g3⟩; have hX3 := (g3.block _ hzl (by simp)).trans hX1; obtain ⟨y0, y1, y2, y3, y4, y5, y6, y7, y8, yf⟩ := blk9c hX3))
  go_wp2_with fail
  go_ret2
  exact ⟨rfl, grown_trans (grown_drew g1) g3 (fun k e => by cases e)⟩

end

end Go.Proofs.Ytmfdhcnnhlchbaa
