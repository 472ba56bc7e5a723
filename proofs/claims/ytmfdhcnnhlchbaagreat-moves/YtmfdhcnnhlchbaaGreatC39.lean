import Derived.Test.YtmfdhcnnhlchbaaGreatC35
import Derived.Test.YtmfdhcnnhlchbaaGreatC37
namespace Go.Proofs.YtmfdhcnnhlchbaaGreat
open Go.RowKit Go.Maps

section
variable {lab : Nat → Nat} {w : World} {x : Nat} {m : Mod} {a0 a1 : DAt} {K0 K1 : Hd} {B : Nat}

set_option maxRecDepth 100000 in
theorem balance0 (h : Br lab w x m a0 a1 K0 K1 B) {user coin : Int} (hu : -9223372036854775808 ≤ user ∧ user ≤ 9223372036854775807) (hc : -9223372036854775808 ≤ coin ∧ coin ≤ 9223372036854775807) :
    Calls Tryz.prog 24 #[.pointer (some ⟨x, 0, none⟩), .int .i64 0, .int .i64 user, .int .i64 coin] w fun e w' => e = .returned (.int .u64 (balM m 0 user coin)) ∧ w' = w := by
  obtain ⟨c0, c1, c2, c3, c4, c5, c6, c7, c8, c9, c10, c11, c12, c13, c14, c15, c16, c17, c18, c19, c20, c21, cf⟩ := dch_cells (q := 0) h.c0.blk rfl
  simp only [Nat.zero_add] at c10
  clear c0 c1 c2 c3 c4 c5 c6 c7 c8 c9 c11 c12 c13 c14 c15 c16 c17 c18 c19 c20 c21 cf
  have hf := find0 h
  obtain ⟨kl, hkl⟩ := keyH hu.1 hu.2 hc.1 hc.2
  have hv : (a0.ff (user, coin)).getD (.int .u64 0) = .int .u64 (balM m 0 user coin) := by
    rw [h.c0.fok user coin]
    unfold balM chainOf
    simp
  go_enter Tryz.func24, Tryz.ntmps24
  go_wp2_with fail
  refine hf.mono ?_
  rintro e w2 ⟨rfl, rfl⟩
  go_wp2_with (at_lookup; refine wpList_map_look rfl _ _ 89 rfl 26 lawH Tryz.underlying89 Tryz.zeroValue26 rfl h.c0.fund (user, coin) kl rfl hkl _ hv ?_)
  go_ret
  exact ⟨rfl, rfl⟩

set_option maxRecDepth 100000 in
theorem balance1 (h : Br lab w x m a0 a1 K0 K1 B) {user coin : Int} (hu : -9223372036854775808 ≤ user ∧ user ≤ 9223372036854775807) (hc : -9223372036854775808 ≤ coin ∧ coin ≤ 9223372036854775807) :
    Calls Tryz.prog 24 #[.pointer (some ⟨x, 0, none⟩), .int .i64 1, .int .i64 user, .int .i64 coin] w fun e w' => e = .returned (.int .u64 (balM m 1 user coin)) ∧ w' = w := by
  obtain ⟨c0, c1, c2, c3, c4, c5, c6, c7, c8, c9, c10, c11, c12, c13, c14, c15, c16, c17, c18, c19, c20, c21, cf⟩ := dch_cells (q := 22) h.c1.blk rfl
  simp only [Nat.reduceAdd] at c10
  clear c0 c1 c2 c3 c4 c5 c6 c7 c8 c9 c11 c12 c13 c14 c15 c16 c17 c18 c19 c20 c21 cf
  have hf := find1 h
  obtain ⟨kl, hkl⟩ := keyH hu.1 hu.2 hc.1 hc.2
  have hv : (a1.ff (user, coin)).getD (.int .u64 0) = .int .u64 (balM m 1 user coin) := by
    rw [h.c1.fok user coin]
    unfold balM chainOf
    simp
  go_enter Tryz.func24, Tryz.ntmps24
  go_wp2_with fail
  refine hf.mono ?_
  rintro e w2 ⟨rfl, rfl⟩
  go_wp2_with (at_lookup; refine wpList_map_look rfl _ _ 89 rfl 26 lawH Tryz.underlying89 Tryz.zeroValue26 rfl h.c1.fund (user, coin) kl rfl hkl _ hv ?_)
  go_ret
  exact ⟨rfl, rfl⟩

set_option maxRecDepth 100000 in
theorem balanceNo {c user coin : Int} (h0 : c ≠ 0) (h1 : c ≠ 1) :
    Calls Tryz.prog 24 #[.pointer (some ⟨x, 0, none⟩), .int .i64 c, .int .i64 user, .int .i64 coin] w fun e w' => e = .returned (.int .u64 0) ∧ w' = w := by
  have hf := findNo (w := w) (x := x) h0 h1
  go_enter Tryz.func24, Tryz.ntmps24
  go_wp2_with fail
  refine hf.mono ?_
  rintro e w2 ⟨rfl, rfl⟩
  go_wp2_with fail
  go_ret
  exact ⟨rfl, rfl⟩

set_option maxRecDepth 100000 in
theorem headNo {c n : Int} (h0 : c ≠ 0) (h1 : c ≠ 1) :
    Calls Tryz.prog 25 #[.pointer (some ⟨x, 0, none⟩), .int .i64 c, .int .u64 n] w fun e w' => e = .returned (.tuple #[headZero, .int .i64 1]) ∧ w.grownBy w' none := by
  have hf := fun W => findNo (w := W) (x := x) h0 h1
  go_enter Tryz.func25, Tryz.ntmps25
  go_wp2_with fail
  refine (hf _).mono ?_
  rintro e w2 ⟨rfl, rfl⟩
  go_wp2_with fail
  refine bodyPost_ret (v := .tuple #[headZero, .int .i64 1]) ?_ rfl ⟨rfl, World.grownBy_alloc w _ none⟩
  simp [results, Tryz.results25, go_sem]

set_option maxRecDepth 100000 in
theorem headFar0 (h : Br lab w x m a0 a1 K0 K1 B) (hB : B ≤ 9000000) {n : Int} (hn : (m.c0.heads.length : Int) ≤ n) :
    Calls Tryz.prog 25 #[.pointer (some ⟨x, 0, none⟩), .int .i64 0, .int .u64 n] w fun e w' => e = .returned (.tuple #[headZero, .int .i64 8]) ∧ w.grownBy w' none := by
  obtain ⟨c0, c1, c2, c3, c4, c5, c6, c7, c8, c9, c10, c11, c12, c13, c14, c15, c16, c17, c18, c19, c20, c21, cf⟩ := dch_cells (q := 0) h.c0.blk rfl
  simp only [Nat.zero_add] at c13
  clear c0 c1 c2 c3 c4 c5 c6 c7 c8 c9 c10 c11 c12 c14 c15 c16 c17 c18 c19 c20 c21 cf
  have hxl : x < w.heap.size := blk_lt h.c0.blk
  have hf := find0 (w := w.alloc (.cells #[.int .u64 0, .int .u64 0, .bool false, .int .u64 0, .int .i64 0, .int .i64 0] 73)) (h.grown (World.grownBy_alloc w _ none))
  have hlen : a0.hs.length ≤ B + 1 := by rw [show a0.hs.length = m.c0.heads.length from by rw [← h.c0.hsS]; simp]; exact h.c0.good.lh
  have hw1 : IntKind.u64.wrap (a0.hs.length : Int) = a0.hs.length := by simp [IntKind.wrap, IntKind.bits, IntKind.signed]; omega
  have hn' : (a0.hs.length : Int) ≤ n := by rw [show a0.hs.length = m.c0.heads.length from by rw [← h.c0.hsS]; simp]; exact hn
  clear hn
  go_enter Tryz.func25, Tryz.ntmps25
  go_wp2_with fail
  refine hf.mono ?_
  rintro e w2 ⟨rfl, rfl⟩
  go_wp2_with fail
  refine bodyPost_ret (v := .tuple #[headZero, .int .i64 8]) ?_ rfl ⟨rfl, World.grownBy_alloc w _ none⟩
  simp [results, Tryz.results25, go_sem]

set_option maxRecDepth 100000 in
set_option maxHeartbeats 800000 in
theorem head0 (h : Br lab w x m a0 a1 K0 K1 B) (hB : B ≤ 9000000) {n : Nat} {K : Hd} (hn : m.c0.heads[n]? = some K) :
    Calls Tryz.prog 25 #[.pointer (some ⟨x, 0, none⟩), .int .i64 0, .int .u64 (n : Int)] w fun e w' => e = .returned (.tuple #[headAgg K, .int .i64 0]) ∧ w.grownBy w' none := by
  obtain ⟨c0, c1, c2, c3, c4, c5, c6, c7, c8, c9, c10, c11, c12, c13, c14, c15, c16, c17, c18, c19, c20, c21, cf⟩ := dch_cells (q := 0) h.c0.blk rfl
  simp only [Nat.zero_add] at c13
  clear c0 c1 c2 c3 c4 c5 c6 c7 c8 c9 c10 c11 c12 c14 c15 c16 c17 c18 c19 c20 c21 cf
  have hxl : x < w.heap.size := blk_lt h.c0.blk
  have hf := find0 (w := w.alloc (.cells #[.int .u64 0, .int .u64 0, .bool false, .int .u64 0, .int .i64 0, .int .i64 0] 73)) (h.grown (World.grownBy_alloc w _ none))
  have hlen : a0.hs.length ≤ B + 1 := by rw [show a0.hs.length = m.c0.heads.length from by rw [← h.c0.hsS]; simp]; exact h.c0.good.lh
  have hw1 : IntKind.u64.wrap (a0.hs.length : Int) = a0.hs.length := by simp [IntKind.wrap, IntKind.bits, IntKind.signed]; omega
  obtain ⟨y, hy, hyK⟩ : ∃ y, a0.hs[n]? = some y ∧ y.hd = K := by
    rw [← h.c0.hsS, List.getElem?_map] at hn
    obtain ⟨y, hy, e⟩ := Option.map_eq_some_iff.1 hn
    exact ⟨y, hy, e⟩
  subst hyK
  have hnl : n < a0.hs.length := (List.getElem?_eq_some_iff.1 hy).1
  have hrow : w.ownsRow 0 tHeader 9 (.slice a0.ah a0.hs.length a0.ch) a0.hs.length (a0.hs.flatMap HdN.cells) := h.c0.heads
  obtain ⟨g, hg⟩ := row_some hrow hnl
  rw [hg] at hrow c13
  have hgl := owns_lt hrow rfl
  obtain ⟨z0, z1, z2, z3, z4, z5, z6, z7, z8⟩ := hdn_at hrow hy
  have hn' : ¬ ((a0.hs.length : Int) ≤ (n : Int)) := by omega
  have hnl' : (n : Int) < (a0.hs.length : Int) := by omega
  clear hn hg
  go_enter Tryz.func25, Tryz.ntmps25
  go_wp2_with fail
  refine hf.mono ?_
  rintro e w2 ⟨rfl, rfl⟩
  go_wp2_with fail
  refine bodyPost_ret (v := .tuple #[headAgg y.hd, .int .i64 0]) ?_ rfl ⟨rfl, World.grownBy_alloc w _ none⟩
  simp [results, Tryz.results25, go_sem]

set_option maxRecDepth 100000 in
theorem headFar1 (h : Br lab w x m a0 a1 K0 K1 B) (hB : B ≤ 9000000) {n : Int} (hn : (m.c1.heads.length : Int) ≤ n) :
    Calls Tryz.prog 25 #[.pointer (some ⟨x, 0, none⟩), .int .i64 1, .int .u64 n] w fun e w' => e = .returned (.tuple #[headZero, .int .i64 8]) ∧ w.grownBy w' none := by
  obtain ⟨c0, c1, c2, c3, c4, c5, c6, c7, c8, c9, c10, c11, c12, c13, c14, c15, c16, c17, c18, c19, c20, c21, cf⟩ := dch_cells (q := 22) h.c1.blk rfl
  simp only [Nat.reduceAdd] at c13
  clear c0 c1 c2 c3 c4 c5 c6 c7 c8 c9 c10 c11 c12 c14 c15 c16 c17 c18 c19 c20 c21 cf
  have hxl : x < w.heap.size := blk_lt h.c0.blk
  have hf := find1 (w := w.alloc (.cells #[.int .u64 0, .int .u64 0, .bool false, .int .u64 0, .int .i64 0, .int .i64 0] 73)) (h.grown (World.grownBy_alloc w _ none))
  have hlen : a1.hs.length ≤ B + 1 := by rw [show a1.hs.length = m.c1.heads.length from by rw [← h.c1.hsS]; simp]; exact h.c1.good.lh
  have hw1 : IntKind.u64.wrap (a1.hs.length : Int) = a1.hs.length := by simp [IntKind.wrap, IntKind.bits, IntKind.signed]; omega
  have hn' : (a1.hs.length : Int) ≤ n := by rw [show a1.hs.length = m.c1.heads.length from by rw [← h.c1.hsS]; simp]; exact hn
  clear hn
  go_enter Tryz.func25, Tryz.ntmps25
  go_wp2_with fail
  refine hf.mono ?_
  rintro e w2 ⟨rfl, rfl⟩
  go_wp2_with fail
  refine bodyPost_ret (v := .tuple #[headZero, .int .i64 8]) ?_ rfl ⟨rfl, World.grownBy_alloc w _ none⟩
  simp [results, Tryz.results25, go_sem]

set_option maxRecDepth 100000 in
set_option maxHeartbeats 800000 in
theorem head1 (h : Br lab w x m a0 a1 K0 K1 B) (hB : B ≤ 9000000) {n : Nat} {K : Hd} (hn : m.c1.heads[n]? = some K) :
    Calls Tryz.prog 25 #[.pointer (some ⟨x, 0, none⟩), .int .i64 1, .int .u64 (n : Int)] w fun e w' => e = .returned (.tuple #[headAgg K, .int .i64 0]) ∧ w.grownBy w' none := by
  obtain ⟨c0, c1, c2, c3, c4, c5, c6, c7, c8, c9, c10, c11, c12, c13, c14, c15, c16, c17, c18, c19, c20, c21, cf⟩ := dch_cells (q := 22) h.c1.blk rfl
  simp only [Nat.reduceAdd] at c13
  clear c0 c1 c2 c3 c4 c5 c6 c7 c8 c9 c10 c11 c12 c14 c15 c16 c17 c18 c19 c20 c21 cf
  have hxl : x < w.heap.size := blk_lt h.c0.blk
  have hf := find1 (w := w.alloc (.cells #[.int .u64 0, .int .u64 0, .bool false, .int .u64 0, .int .i64 0, .int .i64 0] 73)) (h.grown (World.grownBy_alloc w _ none))
  have hlen : a1.hs.length ≤ B + 1 := by rw [show a1.hs.length = m.c1.heads.length from by rw [← h.c1.hsS]; simp]; exact h.c1.good.lh
  have hw1 : IntKind.u64.wrap (a1.hs.length : Int) = a1.hs.length := by simp [IntKind.wrap, IntKind.bits, IntKind.signed]; omega
  obtain ⟨y, hy, hyK⟩ : ∃ y, a1.hs[n]? = some y ∧ y.hd = K := by
    rw [← h.c1.hsS, List.getElem?_map] at hn
    obtain ⟨y, hy, e⟩ := Option.map_eq_some_iff.1 hn
    exact ⟨y, hy, e⟩
  subst hyK
  have hnl : n < a1.hs.length := (List.getElem?_eq_some_iff.1 hy).1
  have hrow : w.ownsRow 0 tHeader 9 (.slice a1.ah a1.hs.length a1.ch) a1.hs.length (a1.hs.flatMap HdN.cells) := h.c1.heads
  obtain ⟨g, hg⟩ := row_some hrow hnl
  rw [hg] at hrow c13
  have hgl := owns_lt hrow rfl
  obtain ⟨z0, z1, z2, z3, z4, z5, z6, z7, z8⟩ := hdn_at hrow hy
  have hn' : ¬ ((a1.hs.length : Int) ≤ (n : Int)) := by omega
  have hnl' : (n : Int) < (a1.hs.length : Int) := by omega
  clear hn hg
  go_enter Tryz.func25, Tryz.ntmps25
  go_wp2_with fail
  refine hf.mono ?_
  rintro e w2 ⟨rfl, rfl⟩
  go_wp2_with fail
  refine bodyPost_ret (v := .tuple #[headAgg y.hd, .int .i64 0]) ?_ rfl ⟨rfl, World.grownBy_alloc w _ none⟩
  simp [results, Tryz.results25, go_sem]

end

end Go.Proofs.YtmfdhcnnhlchbaaGreat

namespace Go.Proofs.YtmfdhcnnhlchbaaGreat
open Go.RowKit Go.Maps

section
variable {lab : Nat → Nat} {w : World} {x : Nat} {m : Mod} {a0 a1 : DAt} {K0 K1 : Hd} {B : Nat}

/-- Head, whatever it is asked. -/
theorem head_any (h : Br lab w x m a0 a1 K0 K1 B) (hB : B ≤ 9000000) (c n : Int) (hn : 0 ≤ n) :
    Calls Tryz.prog 25 #[.pointer (some ⟨x, 0, none⟩), .int .i64 c, .int .u64 n] w fun e w' => (match headM m c n with | some K => e = .returned (.tuple #[headAgg K, .int .i64 0]) | none => ∃ er : Int, (er == 0) = false ∧ e = .returned (.tuple #[headZero, .int .i64 er])) ∧ w.grownBy w' none := by
  obtain ⟨k, rfl⟩ : ∃ k : Nat, n = k := ⟨n.toNat, by omega⟩
  by_cases h0 : c = 0
  · subst h0
    cases hk : m.c0.heads[k]? with
    | some K =>
      rw [show headM m 0 (k : Int) = some K from by simp [headM, chainOf, hk]]
      exact head0 h hB hk
    | none =>
      rw [show headM m 0 (k : Int) = none from by simp [headM, chainOf, hk]]
      refine (headFar0 h hB (n := (k : Int)) (by have := List.getElem?_eq_none_iff.1 hk; omega)).mono ?_
      rintro e w' ⟨rfl, g⟩
      exact ⟨⟨8, by decide, rfl⟩, g⟩
  · by_cases h1 : c = 1
    · subst h1
      cases hk : m.c1.heads[k]? with
      | some K =>
        rw [show headM m 1 (k : Int) = some K from by simp [headM, chainOf, hk]]
        exact head1 h hB hk
      | none =>
        rw [show headM m 1 (k : Int) = none from by simp [headM, chainOf, hk]]
        refine (headFar1 h hB (n := (k : Int)) (by have := List.getElem?_eq_none_iff.1 hk; omega)).mono ?_
        rintro e w' ⟨rfl, g⟩
        exact ⟨⟨8, by decide, rfl⟩, g⟩
    · rw [show headM m c (k : Int) = none from by simp [headM, h0, h1]]
      refine (headNo h0 h1).mono ?_
      rintro e w' ⟨rfl, g⟩
      exact ⟨⟨1, by decide, rfl⟩, g⟩

end

end Go.Proofs.YtmfdhcnnhlchbaaGreat

namespace Go.Proofs.YtmfdhcnnhlchbaaGreat
open Go.RowKit Go.Maps

section
variable {lab : Nat → Nat} {w : World} {x : Nat} {m : Mod} {a0 a1 : DAt} {K0 K1 : Hd} {B : Nat} {k n : Int} {p : Pk}

set_option maxRecDepth 100000 in
theorem othersNo {c : Int} (h0 : c ≠ 0) (h1 : c ≠ 1) :
    Calls Tryz.prog 35 #[.pointer (some ⟨x, 0, none⟩), .int .i64 c] w fun e w' => e = .returned (.slice none 0 0) ∧ w' = w := by
  go_enter Tryz.func35, Tryz.ntmps35
  go_wp2_with fail
  refine (findNo h0 h1).mono ?_
  rintro e w2 ⟨rfl, rfl⟩
  go_wp2_with fail
  go_ret
  exact ⟨rfl, rfl⟩

set_option maxRecDepth 100000 in
theorem bstepNo {c : Int} (h0 : c ≠ 0) (h1 : c ≠ 1) {ao : Option Addr} {ln ch : Nat} :
    Calls Tryz.prog 34 #[.pointer (some ⟨x, 0, none⟩), .int .i64 c, stepAgg k n p, .slice ao ln ch] w fun e w' => e = .returned (.tuple #[.int .u64 0, .int .i64 1]) ∧ w.grownBy w' none := by
  go_enter Tryz.func34, Tryz.ntmps34
  go_wp2_with fail
  refine (findNo h0 h1).mono ?_
  rintro e w2 ⟨rfl, rfl⟩
  go_wp2_with fail
  go_ret2
  exact ⟨rfl, World.grownBy_alloc _ _ _⟩

set_option maxRecDepth 100000 in
theorem doNo {c : Int} (h0 : c ≠ 0) (h1 : c ≠ 1) :
    Calls Tryz.prog 21 #[.pointer (some ⟨x, 0, none⟩), .int .i64 c, stepAgg k n p] w fun e w' => e = .returned (.tuple #[.int .u64 0, .int .i64 1]) ∧ w.grownBy w' none := by
  obtain ⟨w1, hw1⟩ : ∃ w1 : World, w1 = w.alloc (.cells (stepArr k n p) 30) := ⟨_, rfl⟩
  have g1 : w.grownBy w1 none := by rw [hw1]; exact World.grownBy_alloc _ _ _
  have hX1 : w1.heap[w.heap.size]? = some (.cells (stepArr k n p) 30 (0, 0)) := by rw [hw1]; exact heap_alloc_new w _
  obtain ⟨x0, x1, x2, x3, x4, x5, x6, x7, x8, xf⟩ := blk9c hX1
  have hzl : w.heap.size < w1.heap.size := blk_lt hX1
  have hoth := othersNo (w := w1.drew) (x := x) h0 h1
  have hstep := bstepNo (w := w1.drew) (x := x) (k := k) (n := n) (p := p) h0 h1 (ao := none) (ln := 0) (ch := 0)
  go_enter Tryz.func21, Tryz.ntmps21
  go_wp2_with fail
  rw [← hw1]
  clear hw1
  go_region_held3 (fun w' => w'.cell? ⟨w.heap.size, 0, none⟩ = some (.int .i64 k) ∧ w'.cell? ⟨w.heap.size, 1, none⟩ = some (.int .u64 n) ∧ w'.cell? ⟨w.heap.size, 2, none⟩ = some (.int .u64 p.seq) ∧ w'.cell? ⟨w.heap.size, 3, none⟩ = some (.int .i64 p.src) ∧ w'.cell? ⟨w.heap.size, 4, none⟩ = some (.int .i64 p.dst) ∧ w'.cell? ⟨w.heap.size, 5, none⟩ = some (.int .i64 p.coin) ∧ w'.cell? ⟨w.heap.size, 6, none⟩ = some (.int .u64 p.amount) ∧ w'.cell? ⟨w.heap.size, 7, none⟩ = some (.int .u64 p.height) ∧ w'.cell? ⟨w.heap.size, 8, none⟩ = some (.int .u64 p.time)) (go_keep)
    (first
      | (go_at_call 35; refine hoth.mono ?_; rintro e w2 ⟨rfl, rfl⟩)
      | (go_at_call 34; refine hstep.mono ?_; rintro e w3 ⟨rfl, g3⟩; have hX3 := (g3.block _ hzl (by simp)).trans hX1; obtain ⟨y0, y1, y2, y3, y4, y5, y6, y7, y8, yf⟩ := blk9c hX3))
  go_wp2_with fail
  go_ret2
  exact ⟨rfl, grown_trans (grown_drew g1) g3 (fun k e => by cases e)⟩

theorem head_eqv (X Y : Hd) (w : World) : (binOp .eql 73 (headAgg X) (headAgg Y)).run Tryz.prog w = .ok (.bool (decide (short X = short Y))) w := by
  by_cases h1 : X.height = Y.height
  · by_cases h2 : X.time = Y.time
    · by_cases h3 : X.isOpen = Y.isOpen
      · by_cases h4 : X.nextRecv = Y.nextRecv
        · by_cases h5 : X.packets.length = Y.packets.length
          · by_cases h6 : X.answers.length = Y.answers.length
            · go_simp; simp [short, *]
            · have h6' : ¬ (X.answers.length : Int) = Y.answers.length := by omega
              go_simp; simp [short, *]
          · have h5' : ¬ (X.packets.length : Int) = Y.packets.length := by omega
            go_simp; simp [short, *]
        · go_simp; simp [short, *]
      · go_simp; simp [short, *]
    · go_simp; simp [short, *]
  · go_simp; simp [short, *]

abbrev HeadC (w : World) (x : Nat) (c n : Int) (A : Value) (er : Int) : Prop :=
  Calls Tryz.prog 25 #[.pointer (some ⟨x, 0, none⟩), .int .i64 c, .int .u64 n] w fun e w' => e = .returned (.tuple #[A, .int .i64 er]) ∧ w.grownBy w' none

set_option maxRecDepth 100000 in
set_option maxHeartbeats 1600000 in
theorem same_ok {c n d n2 : Int} {X Y : Hd} (h1 : HeadC w x c n (headAgg X) 0) (h2 : Hid (∀ w1, w.grownBy w1 none → HeadC w1 x d n2 (headAgg Y) 0)) :
    Calls Tryz.prog 27 #[.pointer (some ⟨x, 0, none⟩), .int .i64 c, .int .u64 n, .int .i64 d, .int .u64 n2] w fun e w' => e = .returned (.bool (decide (short X = short Y))) ∧ w.grownBy w' none := by
  have hq := fun w => head_eqv X Y w
  generalize decide (short X = short Y) = b at hq
  go_enter Tryz.func27, Tryz.ntmps27
  go_wp2_with fail
  refine h1.mono ?_
  rintro e w1 ⟨rfl, g1⟩
  go_wp2_with fail
  obtain ⟨w2, hw2⟩ : ∃ w2 : World, w2 = w1.alloc (.cells #[Value.int .u64 X.height, Value.int .u64 X.time, Value.bool X.isOpen, Value.int .u64 X.nextRecv, Value.int .i64 X.packets.length, Value.int .i64 X.answers.length] 73) := ⟨_, rfl⟩
  have g2 : w.grownBy w2 none := by rw [hw2]; exact grown_trans g1 (World.grownBy_alloc _ _ none) (fun k e => by cases e)
  have hX2 : w2.heap[w1.heap.size]? = some (.cells #[Value.int .u64 X.height, Value.int .u64 X.time, Value.bool X.isOpen, Value.int .u64 X.nextRecv, Value.int .i64 X.packets.length, Value.int .i64 X.answers.length] 73 (0, 0)) := by rw [hw2]; exact heap_alloc_new w1 _
  have z2 : w1.heap.size < w2.heap.size := blk_lt hX2
  rw [← hw2]
  clear hw2
  refine (h2.out w2 g2).mono ?_
  rintro e w3 ⟨rfl, g3⟩
  have hX3 := (g3.block _ z2 (by simp)).trans hX2
  have z3 : w1.heap.size < w3.heap.size := blk_lt hX3
  obtain ⟨y0, y1, y2, y3, y4, y5, _⟩ := blk6 hX3
  go_wp2_with fail
  go_ret
  exact ⟨rfl, grown_trans g2 (grown_trans g3 (World.grownBy_alloc _ _ none) (fun k e => by cases e)) (fun k e => by cases e)⟩

set_option maxRecDepth 100000 in
set_option maxHeartbeats 1600000 in
theorem same_bad1 {c n d n2 er1 er2 : Int} {X Y : Hd} (hb1 : (er1 == 0) = false) (h1 : HeadC w x c n (headAgg X) er1) (h2 : Hid (∀ w1, w.grownBy w1 none → HeadC w1 x d n2 (headAgg Y) er2)) :
    Calls Tryz.prog 27 #[.pointer (some ⟨x, 0, none⟩), .int .i64 c, .int .u64 n, .int .i64 d, .int .u64 n2] w fun e w' => e = .returned (.bool false) ∧ w.grownBy w' none := by
  go_enter Tryz.func27, Tryz.ntmps27
  go_wp2_with fail
  refine h1.mono ?_
  rintro e w1 ⟨rfl, g1⟩
  go_wp2_with fail
  obtain ⟨w2, hw2⟩ : ∃ w2 : World, w2 = w1.alloc (.cells #[Value.int .u64 X.height, Value.int .u64 X.time, Value.bool X.isOpen, Value.int .u64 X.nextRecv, Value.int .i64 X.packets.length, Value.int .i64 X.answers.length] 73) := ⟨_, rfl⟩
  have g2 : w.grownBy w2 none := by rw [hw2]; exact grown_trans g1 (World.grownBy_alloc _ _ none) (fun k e => by cases e)
  have hX2 : w2.heap[w1.heap.size]? = some (.cells #[Value.int .u64 X.height, Value.int .u64 X.time, Value.bool X.isOpen, Value.int .u64 X.nextRecv, Value.int .i64 X.packets.length, Value.int .i64 X.answers.length] 73 (0, 0)) := by rw [hw2]; exact heap_alloc_new w1 _
  have z2 : w1.heap.size < w2.heap.size := blk_lt hX2
  rw [← hw2]
  clear hw2
  refine (h2.out w2 g2).mono ?_
  rintro e w3 ⟨rfl, g3⟩
  have hX3 := (g3.block _ z2 (by simp)).trans hX2
  have z3 : w1.heap.size < w3.heap.size := blk_lt hX3
  obtain ⟨y0, y1, y2, y3, y4, y5, _⟩ := blk6 hX3
  go_wp2_with fail
  go_ret
  exact ⟨rfl, grown_trans g2 (grown_trans g3 (World.grownBy_alloc _ _ none) (fun k e => by cases e)) (fun k e => by cases e)⟩

set_option maxRecDepth 100000 in
set_option maxHeartbeats 1600000 in
theorem same_bad2 {c n d n2 er2 : Int} {X Y : Hd} (hb2 : (er2 == 0) = false) (h1 : HeadC w x c n (headAgg X) 0) (h2 : Hid (∀ w1, w.grownBy w1 none → HeadC w1 x d n2 (headAgg Y) er2)) :
    Calls Tryz.prog 27 #[.pointer (some ⟨x, 0, none⟩), .int .i64 c, .int .u64 n, .int .i64 d, .int .u64 n2] w fun e w' => e = .returned (.bool false) ∧ w.grownBy w' none := by
  go_enter Tryz.func27, Tryz.ntmps27
  go_wp2_with fail
  refine h1.mono ?_
  rintro e w1 ⟨rfl, g1⟩
  go_wp2_with fail
  obtain ⟨w2, hw2⟩ : ∃ w2 : World, w2 = w1.alloc (.cells #[Value.int .u64 X.height, Value.int .u64 X.time, Value.bool X.isOpen, Value.int .u64 X.nextRecv, Value.int .i64 X.packets.length, Value.int .i64 X.answers.length] 73) := ⟨_, rfl⟩
  have g2 : w.grownBy w2 none := by rw [hw2]; exact grown_trans g1 (World.grownBy_alloc _ _ none) (fun k e => by cases e)
  have hX2 : w2.heap[w1.heap.size]? = some (.cells #[Value.int .u64 X.height, Value.int .u64 X.time, Value.bool X.isOpen, Value.int .u64 X.nextRecv, Value.int .i64 X.packets.length, Value.int .i64 X.answers.length] 73 (0, 0)) := by rw [hw2]; exact heap_alloc_new w1 _
  have z2 : w1.heap.size < w2.heap.size := blk_lt hX2
  rw [← hw2]
  clear hw2
  refine (h2.out w2 g2).mono ?_
  rintro e w3 ⟨rfl, g3⟩
  have hX3 := (g3.block _ z2 (by simp)).trans hX2
  have z3 : w1.heap.size < w3.heap.size := blk_lt hX3
  obtain ⟨y0, y1, y2, y3, y4, y5, _⟩ := blk6 hX3
  go_wp2_with fail
  go_ret
  exact ⟨rfl, grown_trans g2 (grown_trans g3 (World.grownBy_alloc _ _ none) (fun k e => by cases e)) (fun k e => by cases e)⟩

/-- Head, as the two cases together. -/
theorem headC (h : Br lab w x m a0 a1 K0 K1 B) (hB : B ≤ 9000000) (c n : Int) (hn : 0 ≤ n) :
    (∀ K, headM m c n = some K → HeadC w x c n (headAgg K) 0) ∧ (headM m c n = none → ∃ er : Int, (er == 0) = false ∧ HeadC w x c n (headAgg ⟨0, 0, false, 0, [], []⟩) er) := by
  obtain ⟨k, rfl⟩ : ∃ k : Nat, n = k := ⟨n.toNat, by omega⟩
  refine ⟨fun K hK => ?_, fun hK => ?_⟩
  · refine (head_any h hB c k hn).mono ?_
    rw [hK]
    rintro e w' ⟨rfl, g⟩
    exact ⟨rfl, g⟩
  · by_cases h0 : c = 0
    · subst h0
      have hk : m.c0.heads[k]? = none := by simpa [headM, chainOf] using hK
      exact ⟨8, by decide, (headFar0 h hB (n := (k : Int)) (by have := List.getElem?_eq_none_iff.1 hk; omega)).mono (by rintro e w' ⟨rfl, g⟩; exact ⟨rfl, g⟩)⟩
    · by_cases h1 : c = 1
      · subst h1
        have hk : m.c1.heads[k]? = none := by simpa [headM, chainOf] using hK
        exact ⟨8, by decide, (headFar1 h hB (n := (k : Int)) (by have := List.getElem?_eq_none_iff.1 hk; omega)).mono (by rintro e w' ⟨rfl, g⟩; exact ⟨rfl, g⟩)⟩
      · exact ⟨1, by decide, (headNo h0 h1).mono (by rintro e w' ⟨rfl, g⟩; exact ⟨rfl, g⟩)⟩

theorem headC_all (h : Br lab w x m a0 a1 K0 K1 B) (hB : B ≤ 9000000) (c n : Int) (hn : 0 ≤ n) :
    (∀ K, headM m c n = some K → Hid (∀ w1, w.grownBy w1 none → HeadC w1 x c n (headAgg K) 0)) ∧ (headM m c n = none → ∃ er : Int, (er == 0) = false ∧ Hid (∀ w1, w.grownBy w1 none → HeadC w1 x c n (headAgg ⟨0, 0, false, 0, [], []⟩) er)) := by
  obtain ⟨k, rfl⟩ : ∃ k : Nat, n = k := ⟨n.toNat, by omega⟩
  refine ⟨fun K hK w1 g1 => ?_, fun hK => ?_⟩
  · exact (headC (h.grown g1) hB c k hn).1 K hK
  · by_cases h0 : c = 0
    · subst h0
      have hk : m.c0.heads[k]? = none := by simpa [headM, chainOf] using hK
      exact ⟨8, by decide, fun w1 g1 => (headFar0 (h.grown g1) hB (n := (k : Int)) (by have := List.getElem?_eq_none_iff.1 hk; omega)).mono (by rintro e w' ⟨rfl, g⟩; exact ⟨rfl, g⟩)⟩
    · by_cases h1 : c = 1
      · subst h1
        have hk : m.c1.heads[k]? = none := by simpa [headM, chainOf] using hK
        exact ⟨8, by decide, fun w1 g1 => (headFar1 (h.grown g1) hB (n := (k : Int)) (by have := List.getElem?_eq_none_iff.1 hk; omega)).mono (by rintro e w' ⟨rfl, g⟩; exact ⟨rfl, g⟩)⟩
      · exact ⟨1, by decide, fun w1 g1 => (headNo h0 h1).mono (by rintro e w' ⟨rfl, g⟩; exact ⟨rfl, g⟩)⟩

theorem same_any (h : Br lab w x m a0 a1 K0 K1 B) (hB : B ≤ 9000000) (c n d n2 : Int) (hn : 0 ≤ n) (hn2 : 0 ≤ n2) :
    Calls Tryz.prog 27 #[.pointer (some ⟨x, 0, none⟩), .int .i64 c, .int .u64 n, .int .i64 d, .int .u64 n2] w fun e w' => e = .returned (.bool (sameM m c n d n2)) ∧ w.grownBy w' none := by
  obtain ⟨p1, q1⟩ := headC h hB c n hn
  obtain ⟨p2, q2⟩ := headC_all h hB d n2 hn2
  unfold sameM
  cases hX : headM m c n with
  | none =>
    obtain ⟨e1, b1, f1⟩ := q1 hX
    cases hY : headM m d n2 with
    | none =>
      obtain ⟨e2, b2, f2⟩ := q2 hY
      exact same_bad1 b1 f1 f2
    | some Y => exact same_bad1 b1 f1 (p2 Y hY)
  | some X =>
    cases hY : headM m d n2 with
    | none =>
      obtain ⟨e2, b2, f2⟩ := q2 hY
      exact same_bad2 b2 (p1 X hX) f2
    | some Y => exact same_ok (p1 X hX) (p2 Y hY)

end

end Go.Proofs.YtmfdhcnnhlchbaaGreat
