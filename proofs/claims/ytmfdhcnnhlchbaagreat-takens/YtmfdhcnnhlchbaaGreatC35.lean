import Derived.Test.YtmfdhcnnhlchbaaGreatC34
import Derived.Test.YtmfdhcnnhlchbaaGreatC32
import Derived.Test.YtmfdhcnnhlchbaaGreatC33
import Derived.Test.YtmfdhcnnhlchbaaGreatC30
namespace Go.Proofs.YtmfdhcnnhlchbaaGreat
open Go.RowKit Go.Maps

/-- The program's bridge. -/
structure Br (lab : Nat → Nat) (w : World) (x : Nat) (m : Mod) (a0 a1 : DAt) (K0 K1 : Hd) (B : Nat) : Prop where
  c0 : DevCh lab 1 w x [] (dchCells m.c1 K1 a1 ++ [.int .i64 m.taken]) m.c0 K0 a0 B
  c1 : DevCh lab 2 w x (dchCells m.c0 K0 a0) [.int .i64 m.taken] m.c1 K1 a1 B
  k0 : ∃ y, a1.hs[m.c0.known]? = some y ∧ y.hd = K0
  k1 : ∃ y, a0.hs[m.c1.known]? = some y ∧ y.hd = K1
  h0 : m.c0.hd.height + 1 = m.c0.heads.length
  h1 : m.c1.hd.height + 1 = m.c1.heads.length
  lx : lab x = 3

section
variable {lab : Nat → Nat} {w : World} {x : Nat} {m : Mod} {a0 a1 : DAt} {K0 K1 : Hd} {B : Nat}

theorem Br.fresh {w' : World} (h : Br lab w x m a0 a1 K0 K1 B) (g : w.grownBy w' none) : Br (labN lab w.heap.size) w' x m a0 a1 K0 K1 B :=
  ⟨h.c0.fresh g, h.c1.fresh g, h.k0, h.k1, h.h0, h.h1, by rw [labN_old (blk_lt h.c0.blk)]; exact h.lx⟩

theorem Br.grown {w' : World} (h : Br lab w x m a0 a1 K0 K1 B) (g : w.grownBy w' none) : Br lab w' x m a0 a1 K0 K1 B :=
  ⟨h.c0.grown g, h.c1.grown g, h.k0, h.k1, h.h0, h.h1, h.lx⟩

theorem Br.len0 (h : Br lab w x m a0 a1 K0 K1 B) : 0 < a0.hs.length := by
  obtain ⟨y, hy, _⟩ := h.k1
  have := (List.getElem?_eq_some_iff.1 hy).1
  omega

theorem Br.len1 (h : Br lab w x m a0 a1 K0 K1 B) : 0 < a1.hs.length := by
  obtain ⟨y, hy, _⟩ := h.k0
  have := (List.getElem?_eq_some_iff.1 hy).1
  omega

set_option maxRecDepth 100000 in
theorem find0 (h : Br lab w x m a0 a1 K0 K1 B) : Calls Tryz.prog 41 #[.pointer (some ⟨x, 0, none⟩), .int .i64 0] w fun e w' => e = .returned (.pointer (some ⟨x, 0, none⟩)) ∧ w' = w := by
  obtain ⟨c0, c1, c2, c3, c4, c5, c6, c7, c8, c9, c10, c11, c12, c13, c14, c15, c16, c17, c18, c19, c20, c21, cf⟩ := dch_cells (q := 0) h.c0.blk rfl
  have hn : ((a0.hs.length : Int) == 0) = false := by have := h.len0; rw [beq_eq_false_iff_ne]; omega
  simp only [Nat.zero_add] at c13
  clear c0 c1 c2 c3 c4 c5 c6 c7 c8 c9 c10 c11 c12 c14 c15 c16 c17 c18 c19 c20 c21 cf
  go_enter Tryz.func41, Tryz.ntmps41
  go_wp2_with fail
  go_ret
  exact ⟨rfl, rfl⟩

set_option maxRecDepth 100000 in
theorem find1 (h : Br lab w x m a0 a1 K0 K1 B) : Calls Tryz.prog 41 #[.pointer (some ⟨x, 0, none⟩), .int .i64 1] w fun e w' => e = .returned (.pointer (some ⟨x, 22, none⟩)) ∧ w' = w := by
  obtain ⟨c0, c1, c2, c3, c4, c5, c6, c7, c8, c9, c10, c11, c12, c13, c14, c15, c16, c17, c18, c19, c20, c21, cf⟩ := dch_cells (q := 22) h.c1.blk rfl
  have hn : ((a1.hs.length : Int) == 0) = false := by have := h.len1; rw [beq_eq_false_iff_ne]; omega
  simp only [Nat.reduceAdd] at c13
  clear c0 c1 c2 c3 c4 c5 c6 c7 c8 c9 c10 c11 c12 c14 c15 c16 c17 c18 c19 c20 c21 cf
  go_enter Tryz.func41, Tryz.ntmps41
  go_wp2_with fail
  go_ret
  exact ⟨rfl, rfl⟩

set_option maxRecDepth 100000 in
theorem findNo {c : Int} (h0 : c ≠ 0) (h1 : c ≠ 1) : Calls Tryz.prog 41 #[.pointer (some ⟨x, 0, none⟩), .int .i64 c] w fun e w' => e = .returned (.pointer none) ∧ w' = w := by
  by_cases h2 : c < 0
  · go_enter Tryz.func41, Tryz.ntmps41
    go_wp2_with fail
    go_ret
    exact ⟨rfl, rfl⟩
  · have h3 : 2 ≤ c := by omega
    clear h0 h1
    go_enter Tryz.func41, Tryz.ntmps41
    go_wp2_with fail
    go_ret
    exact ⟨rfl, rfl⟩

end

end Go.Proofs.YtmfdhcnnhlchbaaGreat

namespace Go.Proofs.YtmfdhcnnhlchbaaGreat
open Go.RowKit Go.Maps

section
variable {w : World}

theorem newChain_any {own coins : Int} (hc : 0 ≤ coins) (ho : 0 ≤ own ∧ own ≤ 1) : Calls Tryz.prog 31 #[.int .i64 own, .int .u64 coins] w (ChainNew w own coins) := by
  by_cases h : coins = 0
  · subst h; exact newChain_zero
  · exact newChain_some (by omega) ho

set_option maxRecDepth 100000 in
theorem newBig {coins : Int} (hc : 1152921504606846976 < coins) : Calls Tryz.prog 18 #[.int .u64 coins] w fun e w' => e = .returned (.tuple #[.pointer none, .int .i64 5]) ∧ w' = w := by
  go_enter Tryz.func18, Tryz.ntmps18
  go_wp2_with fail
  go_ret2
  exact ⟨rfl, rfl⟩

abbrev brRaw (bp bf ah bp' bf' ah' : Nat) : Array Value := #[.bool true, .int .u64 1, .int .u64 1, .map (some bp), .slice none 0 0, .slice none 0 0, .slice none 0 0, .int .i64 0, .int .u64 0, .int .u64 0, .map (some bf), .int .u64 0, .int .u64 0, .slice (some ⟨ah, 0, none⟩) 1 1, .int .u64 0, .int .u64 0, .bool false, .int .u64 0, .int .i64 0, .int .i64 0, .map none, .map none, .bool true, .int .u64 1, .int .u64 1, .map (some bp'), .slice none 0 0, .slice none 0 0, .slice none 0 0, .int .i64 1, .int .u64 0, .int .u64 0, .map (some bf'), .int .u64 0, .int .u64 0, .slice (some ⟨ah', 0, none⟩) 1 1, .int .u64 0, .int .u64 0, .bool false, .int .u64 0, .int .i64 0, .int .i64 0, .map none, .map none, .int .i64 0]

theorem cell_off {w : World} {b o o' : Nat} {v : Value} (h : o' ≠ o) : (w.setCell ⟨b, o, none⟩ v).cell? ⟨b, o', none⟩ = w.cell? ⟨b, o', none⟩ := by
  unfold World.cell? World.setCell
  simp only [Array.getElem?_modify]
  cases w.heap[b]? with
  | none => simp
  | some x => cases x <;> simp [Ne.symm h]

theorem newView0 : Calls Tryz.prog 32 #[hdrNew] w (ViewNew newHd w) := newView_any (y := ⟨newHd, [], [], [], none, 0, none, 0, none, 0⟩)

theorem view_cells {W : World} {x bp bf ah bp' bf' ah' : Nat} (hX : W.heap[x]? = some (.cells (brRaw bp bf ah bp' bf' ah') tBr (0, 0))) (hA : W.heap[ah']? = some (.cells #[Value.int .u64 0, Value.int .u64 0, Value.bool true, Value.int .u64 1, Value.int .i64 0, Value.int .i64 0, Value.slice none 0 0, Value.slice none 0 0, Value.slice none 0 0] tHeader (0, 0))) :
    W.cell? ⟨x, 35, none⟩ = some (.slice (some ⟨ah', 0, none⟩) 1 1) ∧ W.cell? ⟨ah', 0, none⟩ = some (.int .u64 0) ∧ W.cell? ⟨ah', 1, none⟩ = some (.int .u64 0) ∧ W.cell? ⟨ah', 2, none⟩ = some (.bool true) ∧ W.cell? ⟨ah', 3, none⟩ = some (.int .u64 1) ∧ W.cell? ⟨ah', 4, none⟩ = some (.int .i64 0) ∧ W.cell? ⟨ah', 5, none⟩ = some (.int .i64 0) ∧ W.cell? ⟨ah', 6, none⟩ = some (.slice none 0 0) ∧ W.cell? ⟨ah', 7, none⟩ = some (.slice none 0 0) ∧ W.cell? ⟨ah', 8, none⟩ = some (.slice none 0 0) := by
  refine ⟨?_, ?_, ?_, ?_, ?_, ?_, ?_, ?_, ?_, ?_⟩
  all_goals first
    | (simp [World.cell?, hX]; done)
    | (simp [World.cell?, hA]; done)

theorem known_cells {W : World} {x bp bf ah bp' bf' ah' : Nat} (hX : W.heap[x]? = some (.cells (brRaw bp bf ah bp' bf' ah') tBr (0, 0))) :
    W.cell? ⟨x, 14, none⟩ = some (.int .u64 0) ∧ W.cell? ⟨x, 15, none⟩ = some (.int .u64 0) ∧ W.cell? ⟨x, 16, none⟩ = some (.bool false) ∧ W.cell? ⟨x, 17, none⟩ = some (.int .u64 0) ∧ W.cell? ⟨x, 18, none⟩ = some (.int .i64 0) ∧ W.cell? ⟨x, 19, none⟩ = some (.int .i64 0) ∧ W.cell? ⟨x, 20, none⟩ = some (.map none) ∧ W.cell? ⟨x, 21, none⟩ = some (.map none) ∧ W.cell? ⟨x, 36, none⟩ = some (.int .u64 0) ∧ W.cell? ⟨x, 37, none⟩ = some (.int .u64 0) ∧ W.cell? ⟨x, 38, none⟩ = some (.bool false) ∧ W.cell? ⟨x, 39, none⟩ = some (.int .u64 0) ∧ W.cell? ⟨x, 40, none⟩ = some (.int .i64 0) ∧ W.cell? ⟨x, 41, none⟩ = some (.int .i64 0) ∧ W.cell? ⟨x, 42, none⟩ = some (.map none) ∧ W.cell? ⟨x, 43, none⟩ = some (.map none) ∧ (∀ k, W.frozen? ⟨x, k, none⟩ = false) := by
  refine ⟨?_, ?_, ?_, ?_, ?_, ?_, ?_, ?_, ?_, ?_, ?_, ?_, ?_, ?_, ?_, ?_, ?_⟩
  all_goals first
    | (intro k; simp [World.frozen?, hX])
    | simp [World.cell?, hX]

theorem row_cells {W : World} {ah : Nat} (r : W.ownsRow 0 tHeader 9 (.slice (some ⟨ah, 0, none⟩) 1 1) 1 (HdN.cells ⟨newHd, [], [], [], none, 0, none, 0, none, 0⟩)) : ∃ cur, W.heap[ah]? = some (.cells cur tHeader (0, 0)) := by
  rcases r.2 with ⟨hv, _⟩ | ⟨g, cap, cur, hv, _, hg, _⟩
  · cases hv
  · cases hv
    exact ⟨cur, hg⟩

end

end Go.Proofs.YtmfdhcnnhlchbaaGreat

namespace Go.Proofs.YtmfdhcnnhlchbaaGreat
open Go.RowKit Go.Maps

section
variable {lab : Nat → Nat} {l : Nat} {w : World} {x q : Nat} {pre post : List Value} {S : Ch} {K : Hd} {a : DAt} {B : Nat}

set_option maxRecDepth 100000 in
theorem due_any (p : Pk) (h t : Int) : Calls Tryz.prog 83 #[p.agg, .int .u64 h, .int .u64 t] w fun e w' => e = .returned (.bool (dueB p h t)) ∧ w.grownBy w' none := by
  by_cases h1 : 0 < p.height
  · by_cases h2 : p.height ≤ h
    · go_enter Tryz.func83, Tryz.ntmps83
      go_wp2_with fail
      go_ret
      exact ⟨by rw [show dueB p h t = true from by unfold dueB; simp; omega]; rfl, World.grownBy_alloc w _ none⟩
    · by_cases h3 : 0 < p.time
      · by_cases h4 : p.time ≤ t
        · go_enter Tryz.func83, Tryz.ntmps83
          go_wp2_with fail
          go_ret
          exact ⟨by rw [show dueB p h t = true from by unfold dueB; simp; omega]; rfl, World.grownBy_alloc w _ none⟩
        · go_enter Tryz.func83, Tryz.ntmps83
          go_wp2_with fail
          go_ret
          exact ⟨by rw [show dueB p h t = false from by unfold dueB; simp; omega]; rfl, World.grownBy_alloc w _ none⟩
      · go_enter Tryz.func83, Tryz.ntmps83
        go_wp2_with fail
        go_ret
        exact ⟨by rw [show dueB p h t = false from by unfold dueB; simp; omega]; rfl, World.grownBy_alloc w _ none⟩
  · by_cases h3 : 0 < p.time
    · by_cases h4 : p.time ≤ t
      · go_enter Tryz.func83, Tryz.ntmps83
        go_wp2_with fail
        go_ret
        exact ⟨by rw [show dueB p h t = true from by unfold dueB; simp; omega]; rfl, World.grownBy_alloc w _ none⟩
      · go_enter Tryz.func83, Tryz.ntmps83
        go_wp2_with fail
        go_ret
        exact ⟨by rw [show dueB p h t = false from by unfold dueB; simp; omega]; rfl, World.grownBy_alloc w _ none⟩
    · go_enter Tryz.func83, Tryz.ntmps83
      go_wp2_with fail
      go_ret
      exact ⟨by rw [show dueB p h t = false from by unfold dueB; simp; omega]; rfl, World.grownBy_alloc w _ none⟩

/-- The end is closed. -/
abbrev Ch.shut (S : Ch) : Ch := { S with hd := { S.hd with isOpen := false } }

theorem shut_dev (h : DevCh lab l w x pre post S K a B) (hq : pre.length = q) : DevCh lab l (w.setCell ⟨x, q, none⟩ (.bool false)) x pre post S.shut K a B := by
  refine dev_plain h (grown_set (grown_refl w _) ⟨x, q, none⟩ _ (.inl rfl)) ?_ rfl rfl rfl rfl rfl (fun _ => rfl)
  exact blkq_set h.blk hq 0 (by simp [dchCells]) (.bool false)

theorem close_any (h : DevCh lab l w x pre post S K a B) (hq : pre.length = q) :
    Calls Tryz.prog 66 #[.pointer (some ⟨x, q, none⟩)] w fun e w' => e = .returned (.int .i64 (closeC S).2.2) ∧ DevTo lab l w x pre post (closeC S).1 K B w' := by
  obtain ⟨c0, c1, c2, c3, c4, c5, c6, c7, c8, c9, c10, c11, c12, c13, c14, c15, c16, c17, c18, c19, c20, c21, cf⟩ := dch_cells h.blk hq
  unfold closeC
  by_cases h1 : S.hd.isOpen = false
  · rw [if_pos h1]
    rw [h1] at c0
    refine (shut_closed c0).mono ?_
    rintro e w' ⟨rfl, rfl⟩
    exact ⟨rfl, lab, a, h, StepL.refl _ _ _ _⟩
  · rw [if_neg h1]
    rw [show S.hd.isOpen = true by simpa using h1] at c0
    refine (shut_open c0 cf).mono ?_
    rintro e w' ⟨rfl, rfl⟩
    exact ⟨rfl, lab, a, shut_dev h hq, step_x (grown_set (grown_refl w _) ⟨x, q, none⟩ _ (.inl rfl)) (setCell_size _ _ _)⟩

set_option maxRecDepth 100000 in
theorem confirm_any (h : DevCh lab l w x pre post S K a B) (hq : pre.length = q) :
    Calls Tryz.prog 67 #[.pointer (some ⟨x, q, none⟩)] w fun e w' => e = .returned (.int .i64 (confirmC S K).2.2) ∧ DevTo lab l w x pre post (confirmC S K).1 K B w' := by
  obtain ⟨c0, c1, c2, c3, c4, c5, c6, c7, c8, c9, c10, c11, c12, c13, c14, c15, c16, c17, c18, c19, c20, c21, cf⟩ := dch_cells h.blk hq
  unfold confirmC
  by_cases h1 : S.hd.isOpen = false
  · rw [if_pos h1]
    go_enter Tryz.func67, Tryz.ntmps67
    go_wp2_with fail
    go_ret
    exact ⟨rfl, lab, a, h, StepL.refl _ _ _ _⟩
  · rw [if_neg h1]
    have h1' : S.hd.isOpen = true := by simpa using h1
    clear h1
    by_cases h2 : K.isOpen = true
    · rw [if_pos h2]
      go_enter Tryz.func67, Tryz.ntmps67
      go_wp2_with fail
      go_ret
      exact ⟨rfl, lab, a, h, StepL.refl _ _ _ _⟩
    · rw [if_neg h2]
      have h2' : K.isOpen = false := by simpa using h2
      clear h2
      go_enter Tryz.func67, Tryz.ntmps67
      go_wp2_with fail
      go_ret
      exact ⟨rfl, lab, a, shut_dev h hq, step_x (grown_set (grown_refl w _) ⟨x, q, none⟩ _ (.inl rfl)) (setCell_size _ _ _)⟩

set_option maxRecDepth 100000 in
theorem comeBack_any (h : DevCh lab l w x pre post S K a B) (hl : l ≠ 0) (hq : pre.length = q) (hB : B ≤ 9000000) {p : Pk} (hv : (0 ≤ p.src ∧ p.src ≤ 2) ∧ (0 ≤ p.coin ∧ p.coin ≤ 1)) :
    Calls Tryz.prog 89 #[.pointer (some ⟨x, q, none⟩), p.agg] w fun e w' => e = .returned (.tuple #[]) ∧ DevTo lab l w x pre post (S.credit p.src p.coin p.amount) K (B + 1) w' := by
  have hxl : x < w.heap.size := blk_lt h.blk
  have hg := give_any (n := p.amount) (h.fresh (World.grownBy_alloc w (.cells p.arr tPk) none)) hl hq (by omega) hv.1 hv.2
  go_enter Tryz.func89, Tryz.ntmps89
  go_wp2_with fail
  refine hg.mono ?_
  rintro e w2 ⟨rfl, h2⟩
  go_wp2_with fail
  go_end0
  exact ⟨rfl, h2.trans (grown_stepL (World.grownBy_alloc w _ none))⟩

end

end Go.Proofs.YtmfdhcnnhlchbaaGreat

namespace Go.Proofs.YtmfdhcnnhlchbaaGreat
open Go.RowKit Go.Maps

section
variable {lab : Nat → Nat} {l : Nat} {w : World} {x q : Nat} {pre post : List Value} {S : Ch} {K : Hd} {a : DAt} {B : Nat}

/-- Nothing but x and blocks of the label l has turned: the box stays. -/
theorem StepL.box {lab lab' : Nat → Nat} {w w' : World} {O : Obj} {b : Nat} (st : StepL l x lab lab' w w') (hb : w.heap[b]? = some O) (hx : b ≠ x) (hlb : lab b = 0) (hl : l ≠ 0) : w'.heap[b]? = some O :=
  (st.block b (blk_lt hb) (by rw [hlb]; exact fun e => hl e.symm) hx).trans hb

set_option maxRecDepth 100000 in
set_option maxHeartbeats 800000 in
theorem giveUp_any (h : DevCh lab l w x pre post S K a B) (hl : l ≠ 0) (hq : pre.length = q) (hB : B ≤ 8000000) {n : Int} {p : Pk} (hp : S.hd.packets.find? (fun r => r.seq == n) = some p) :
    Calls Tryz.prog 90 #[.pointer (some ⟨x, q, none⟩), p.agg] w fun e w' => e = .returned (.tuple #[]) ∧ DevTo lab l w x pre post ((S.gone n).credit p.src p.coin p.amount).shut K (B + 2) w' := by
  have hxl : x < w.heap.size := blk_lt h.blk
  have hps : p.seq = n := by have := List.find?_some hp; simpa using this
  have hv := h.good.hd.val p (List.mem_of_find?_eq_some hp)
  obtain ⟨w1, hw1⟩ : ∃ w1 : World, w1 = w.alloc (.cells p.arr tPk) := ⟨_, rfl⟩
  have g1 : w.grownBy w1 none := by rw [hw1]; exact World.grownBy_alloc _ _ _
  have hX1 : w1.heap[w.heap.size]? = some (.cells p.arr tPk (0, 0)) := by rw [hw1]; exact heap_alloc_new w _
  have h1 : DevCh (labN lab w.heap.size) l w1 x pre post S K a B := h.fresh g1
  have h1d : DevCh (labN lab w.heap.size) l w1.drew x pre post S K a B := h1.grown (grown_drew (grown_refl w1 none))
  have hdrop := drop_any h1d hl hq (by omega) hp
  rw [← hps] at hdrop
  obtain ⟨x0, x1, x2, x3, x4, x5, x6, xf⟩ := blk7 hX1
  have hps' : Hid (p.seq = n) := hps
  clear hps
  go_enter Tryz.func90, Tryz.ntmps90
  go_wp2_with fail
  rw [← hw1]
  clear hw1
  refine wp_region_head 5 (by kernel_rfl) (by kernel_rfl) #[true, true, true, true, true, false] (by kernel_rfl) ?_
  simp only [List.take_succ_cons, List.take_zero]
  repeat still_step
  refine wpStill_nil ?_
  refine wpAny_ready (rs := [5]) (by kernel_rfl) (by simp) ?_
  refine AllReady.cons (o := _) rfl (fun K hK => ?_) AllReady.nil
  go_simp
  refine hdrop.mono ?_
  rintro e w2 ⟨rfl, lab2, a2, h2, st2⟩
  refine hK _ _ ?_
  clear hK K hdrop
  refine wpAny_done (by kernel_rfl) ?_ _
  have hX2 := st2.box hX1 (by omega) (labN_new (Nat.le_refl _)) hl
  clear x0 x1 x2 x3 x4 x5 x6 xf
  obtain ⟨x0, x1, x2, x3, x4, x5, x6, xf⟩ := blk7 hX2
  have hback := comeBack_any (p := p) h2 hl hq (by omega) hv
  go_wp2_with fail
  refine hback.mono ?_
  rintro e w3 ⟨rfl, lab3, a3, h3, st3⟩
  clear x0 x1 x2 x3 x4 x5 x6 xf hback
  obtain ⟨c0, c1, c2, c3, c4, c5, c6, c7, c8, c9, c10, c11, c12, c13, c14, c15, c16, c17, c18, c19, c20, c21, cf⟩ := dch_cells h3.blk hq
  go_wp2_with fail
  go_end0
  refine ⟨rfl, lab3, a3, ?_, ((grown_stepL g1).trans st2.drew).trans (st3.trans (step_x (grown_set (grown_refl w3 _) ⟨x, q, none⟩ _ (.inl rfl)) (setCell_size _ _ _)))⟩
  have := shut_dev h3 hq
  rw [← hps'.out]
  exact this

abbrev pkZero : Value := .agg #[.int .u64 0, .int .i64 0, .int .i64 0, .int .i64 0, .int .u64 0, .int .u64 0, .int .u64 0]

set_option maxRecDepth 100000 in
set_option maxHeartbeats 800000 in
theorem timeout_none (h : DevCh lab l w x pre post S K a B) (hq : pre.length = q) {n : Int} (hn : 0 ≤ n ∧ n < 18446744073709551616) (hp : S.hd.packets.find? (fun r => r.seq == n) = none) :
    Calls Tryz.prog 64 #[.pointer (some ⟨x, q, none⟩), .int .u64 n] w fun e w' => e = .returned (.int .i64 10) ∧ w.grownBy w' none := by
  have hxl : x < w.heap.size := blk_lt h.blk
  have hkey := keyU hn.1 hn.2
  obtain ⟨c0, c1, c2, c3, c4, c5, c6, c7, c8, c9, c10, c11, c12, c13, c14, c15, c16, c17, c18, c19, c20, c21, cf⟩ := dch_cells h.blk hq
  go_enter Tryz.func64, Tryz.ntmps64
  go_wp2_with (at_lookup; refine wpList_map_lookOk rfl _ _ 83 rfl 28 lawU Tryz.underlying83 Tryz.zeroValue28 rfl h.pend n _ rfl hkey pkZero false (by simp [pkF, hp]) (by simp [pkF, hp]) ?_)
  go_ret
  exact ⟨rfl, World.grownBy_alloc w _ none⟩

set_option maxRecDepth 100000 in
set_option maxHeartbeats 4000000 in
theorem timeout_some (h : DevCh lab l w x pre post S K a B) (hl : l ≠ 0) (hq : pre.length = q) (hB : B ≤ 8000000) {n : Int} (hn : 0 ≤ n ∧ n < 18446744073709551616) {p : Pk} (hp : S.hd.packets.find? (fun r => r.seq == n) = some p) :
    Calls Tryz.prog 64 #[.pointer (some ⟨x, q, none⟩), .int .u64 n] w fun e w' => e = .returned (.int .i64 (backC S n K false).2.2) ∧ DevTo lab l w x pre post (backC S n K false).1 K (B + 4) w' := by
  have hxl : x < w.heap.size := blk_lt h.blk
  have hkey := keyU hn.1 hn.2
  have hB0 : backC S n K false = if (!dueB p K.height K.time) || decide (n < K.nextRecv) then (S, 0, 13) else (((S.gone n).credit p.src p.coin p.amount).shut, 0, 0) := by
    unfold backC
    simp only [hp]
    simp
  rw [hB0]
  obtain ⟨w1, hw1⟩ : ∃ w1 : World, w1 = w.alloc (.cells p.arr tPk) := ⟨_, rfl⟩
  have g1 : w.grownBy w1 none := by rw [hw1]; exact World.grownBy_alloc _ _ _
  have hX1 : w1.heap[w.heap.size]? = some (.cells p.arr tPk (0, 0)) := by rw [hw1]; exact heap_alloc_new w _
  have h1 : DevCh (labN lab w.heap.size) l w1 x pre post S K a B := h.fresh g1
  have hxN : x ≠ w.heap.size := by omega
  obtain ⟨c0, c1, c2, c3, c4, c5, c6, c7, c8, c9, c10, c11, c12, c13, c14, c15, c16, c17, c18, c19, c20, c21, cf⟩ := dch_cells h.blk hq
  have hdue : ∀ b, dueB p K.height K.time = b → Calls Tryz.prog 83 #[p.agg, .int .u64 K.height, .int .u64 K.time] w1.drew fun e w2 => e = .returned (.bool b) ∧ (w2.cell? ⟨w.heap.size, 0, none⟩ = some (.int .u64 p.seq) ∧ w2.cell? ⟨w.heap.size, 1, none⟩ = some (.int .i64 p.src) ∧ w2.cell? ⟨w.heap.size, 2, none⟩ = some (.int .i64 p.dst) ∧ w2.cell? ⟨w.heap.size, 3, none⟩ = some (.int .i64 p.coin) ∧ w2.cell? ⟨w.heap.size, 4, none⟩ = some (.int .u64 p.amount) ∧ w2.cell? ⟨w.heap.size, 5, none⟩ = some (.int .u64 p.height) ∧ w2.cell? ⟨w.heap.size, 6, none⟩ = some (.int .u64 p.time) ∧ w2.cell? ⟨x, q + 14, none⟩ = some (.int .u64 K.height) ∧ w2.cell? ⟨x, q + 15, none⟩ = some (.int .u64 K.time) ∧ w2.cell? ⟨x, q + 17, none⟩ = some (.int .u64 K.nextRecv)) ∧ Hid (w1.grownBy w2 none) := by
    intro b hb
    refine (due_any p K.height K.time).mono ?_
    rintro e w2 ⟨rfl, g2⟩
    have g2' : w1.grownBy w2 none := ⟨g2.os, g2.tape, g2.output, g2.size, g2.block⟩
    obtain ⟨y0, y1, y2, y3, y4, y5, y6, yf⟩ := blk7 ((g2'.block _ (blk_lt hX1) (by simp)).trans hX1)
    obtain ⟨d0, d1, d2, d3, d4, d5, d6, d7, d8, d9, d10, d11, d12, d13, d14, d15, d16, d17, d18, d19, d20, d21, df⟩ := dch_cells ((g2'.block x (by have := g1.size; omega) (by simp)).trans h1.blk) hq
    exact ⟨by rw [hb], ⟨y0, y1, y2, y3, y4, y5, y6, d14, d15, d17⟩, g2'⟩
  obtain ⟨b, hb⟩ : ∃ b, dueB p K.height K.time = b := ⟨_, rfl⟩
  replace hdue := hdue b hb
  rw [hb]
  clear hb hB0
  cases b with
  | false =>
    rw [if_pos (by simp)]
    go_enter Tryz.func64, Tryz.ntmps64
    go_wp2_with (at_lookup; refine wpList_map_lookOk rfl _ _ 83 rfl 28 lawU Tryz.underlying83 Tryz.zeroValue28 rfl h.pend n _ rfl hkey p.agg true (by simp [pkF, hp]) (by simp [pkF, hp]) ?_)
    rw [← hw1]
    clear hw1 c0 c1 c2 c3 c4 c5 c6 c7 c8 c9 c10 c11 c12 c13 c14 c15 c16 c17 c18 c19 c20 c21 cf
    obtain ⟨d0, d1, d2, d3, d4, d5, d6, d7, d8, d9, d10, d11, d12, d13, d14, d15, d16, d17, d18, d19, d20, d21, df⟩ := dch_cells h1.blk hq
    obtain ⟨x0, x1, x2, x3, x4, x5, x6, xf⟩ := blk7 hX1
    clear d0 d1 d2 d3 d4 d5 d6 d7 d8 d9 d10 d11 d12 d13 d16 d18 d19 d20 d21
    refine wp_region_head 13 (by kernel_rfl) (by kernel_rfl) #[true, true, true, true, true, true, true, true, true, true, true, true, true, false, false, false, false, false, false, false, false, false, false, false, false, false] (by kernel_rfl) ?_
    simp only [List.take_succ_cons, List.take_zero]
    repeat still_step
    refine wpStill_nil ?_
    refine wpAny_ready (rs := [13]) (by kernel_rfl) (by simp) ?_
    refine AllReady.cons (o := _) rfl (fun K hK => ?_) AllReady.nil
    go_simp
    refine hdue.mono ?_
    rintro e w2 ⟨rfl, ⟨k0, k1, k2, k3, k4, k5, k6, k14, k15, k17⟩, HG⟩
    refine hK _ _ ?_
    clear hK K
    clear x0 x1 x2 x3 x4 x5 x6 xf d14 d15 d17 df
    refine wpAny_take (i := 14) (v := ?v14) rfl (by kernel_rfl) (by kernel_rfl) (by kernel_rfl) (fun _ _ _ h => h) (Or.inl ⟨by rfl, ?hy14⟩) ?rest14
    case hy14 =>
      intro w
      go_simp
      with_reducible rfl
    refine wpAny_take (i := 15) (v := ?v15) rfl (by kernel_rfl) (by kernel_rfl) (by kernel_rfl) (fun _ _ _ h => h) (Or.inl ⟨by rfl, ?hy15⟩) ?rest15
    case hy15 =>
      intro w
      go_simp
      with_reducible rfl
    go_frame
    refine wpAny_take (i := 16) (v := undef) rfl (by kernel_rfl) (by kernel_rfl) (by kernel_rfl) (fun _ _ _ h => h) (Or.inr ⟨?_, rfl⟩) ?_
    · simp [Region.wanted, yielded]
    simp only [Act.put, List.getElem_toArray, List.getElem_cons_succ, List.getElem_cons_zero, List.setIfInBounds_toArray, List.set_cons_succ, List.set_cons_zero]
    refine wpAny_take (i := 17) (v := undef) rfl (by kernel_rfl) (by kernel_rfl) (by kernel_rfl) (fun _ _ _ h => h) (Or.inr ⟨?_, rfl⟩) ?_
    · simp [Region.wanted, yielded]
    simp only [Act.put, List.getElem_toArray, List.getElem_cons_succ, List.getElem_cons_zero, List.setIfInBounds_toArray, List.set_cons_succ, List.set_cons_zero]
    refine wpAny_take (i := 18) (v := undef) rfl (by kernel_rfl) (by kernel_rfl) (by kernel_rfl) (fun _ _ _ h => h) (Or.inr ⟨?_, rfl⟩) ?_
    · simp [Region.wanted, yielded]
    simp only [Act.put, List.getElem_toArray, List.getElem_cons_succ, List.getElem_cons_zero, List.setIfInBounds_toArray, List.set_cons_succ, List.set_cons_zero]
    refine wpAny_take (i := 19) (v := undef) rfl (by kernel_rfl) (by kernel_rfl) (by kernel_rfl) (fun _ _ _ h => h) (Or.inr ⟨?_, rfl⟩) ?_
    · simp [Region.wanted, yielded]
    simp only [Act.put, List.getElem_toArray, List.getElem_cons_succ, List.getElem_cons_zero, List.setIfInBounds_toArray, List.set_cons_succ, List.set_cons_zero]
    refine wpAny_take (i := 20) (v := undef) rfl (by kernel_rfl) (by kernel_rfl) (by kernel_rfl) (fun _ _ _ h => h) (Or.inr ⟨?_, rfl⟩) ?_
    · simp [Region.wanted, yielded]
    simp only [Act.put, List.getElem_toArray, List.getElem_cons_succ, List.getElem_cons_zero, List.setIfInBounds_toArray, List.set_cons_succ, List.set_cons_zero]
    refine wpAny_take (i := 21) (v := undef) rfl (by kernel_rfl) (by kernel_rfl) (by kernel_rfl) (fun _ _ _ h => h) (Or.inr ⟨?_, rfl⟩) ?_
    · simp [Region.wanted, yielded]
    simp only [Act.put, List.getElem_toArray, List.getElem_cons_succ, List.getElem_cons_zero, List.setIfInBounds_toArray, List.set_cons_succ, List.set_cons_zero]
    refine wpAny_take (i := 22) (v := undef) rfl (by kernel_rfl) (by kernel_rfl) (by kernel_rfl) (fun _ _ _ h => h) (Or.inr ⟨?_, rfl⟩) ?_
    · simp [Region.wanted, yielded]
    simp only [Act.put, List.getElem_toArray, List.getElem_cons_succ, List.getElem_cons_zero, List.setIfInBounds_toArray, List.set_cons_succ, List.set_cons_zero]
    refine wpAny_take (i := 23) (v := undef) rfl (by kernel_rfl) (by kernel_rfl) (by kernel_rfl) (fun _ _ _ h => h) (Or.inr ⟨?_, rfl⟩) ?_
    · simp [Region.wanted, yielded]
    simp only [Act.put, List.getElem_toArray, List.getElem_cons_succ, List.getElem_cons_zero, List.setIfInBounds_toArray, List.set_cons_succ, List.set_cons_zero]
    refine wpAny_take (i := 24) (v := ?v24) rfl (by kernel_rfl) (by kernel_rfl) (by kernel_rfl) (fun _ _ _ h => h) (Or.inl ⟨by rfl, ?hy24⟩) ?rest24
    case hy24 =>
      intro w
      go_simp
      with_reducible rfl
    refine wpAny_take (i := 25) (v := ?v25) rfl (by kernel_rfl) (by kernel_rfl) (by kernel_rfl) (fun _ _ _ h => h) (Or.inl ⟨by rfl, ?hy25⟩) ?rest25
    case hy25 =>
      intro w
      go_simp
      with_reducible rfl
    refine wpAny_done (by kernel_rfl) ?_ _
    simp only [Act.put, List.getElem_toArray, List.getElem_cons_succ, List.getElem_cons_zero, List.setIfInBounds_toArray, List.set_cons_succ, List.set_cons_zero]
    go_wp2_with fail
    go_ret
    have gg : w.grownBy w2 none := grown_trans g1 HG.out (by simp)
    exact ⟨rfl, (h.same gg).mono (by omega)⟩
  | true =>
    by_cases hlt : n < K.nextRecv
    · rw [if_pos (by simp [hlt])]
      go_enter Tryz.func64, Tryz.ntmps64
      go_wp2_with (at_lookup; refine wpList_map_lookOk rfl _ _ 83 rfl 28 lawU Tryz.underlying83 Tryz.zeroValue28 rfl h.pend n _ rfl hkey p.agg true (by simp [pkF, hp]) (by simp [pkF, hp]) ?_)
      rw [← hw1]
      clear hw1 c0 c1 c2 c3 c4 c5 c6 c7 c8 c9 c10 c11 c12 c13 c14 c15 c16 c17 c18 c19 c20 c21 cf
      obtain ⟨d0, d1, d2, d3, d4, d5, d6, d7, d8, d9, d10, d11, d12, d13, d14, d15, d16, d17, d18, d19, d20, d21, df⟩ := dch_cells h1.blk hq
      obtain ⟨x0, x1, x2, x3, x4, x5, x6, xf⟩ := blk7 hX1
      clear d0 d1 d2 d3 d4 d5 d6 d7 d8 d9 d10 d11 d12 d13 d16 d18 d19 d20 d21
      go_region_held3 (fun w' => w'.cell? ⟨w.heap.size, 0, none⟩ = some (.int .u64 p.seq) ∧ w'.cell? ⟨w.heap.size, 1, none⟩ = some (.int .i64 p.src) ∧ w'.cell? ⟨w.heap.size, 2, none⟩ = some (.int .i64 p.dst) ∧ w'.cell? ⟨w.heap.size, 3, none⟩ = some (.int .i64 p.coin) ∧ w'.cell? ⟨w.heap.size, 4, none⟩ = some (.int .u64 p.amount) ∧ w'.cell? ⟨w.heap.size, 5, none⟩ = some (.int .u64 p.height) ∧ w'.cell? ⟨w.heap.size, 6, none⟩ = some (.int .u64 p.time) ∧ w'.cell? ⟨x, q + 14, none⟩ = some (.int .u64 K.height) ∧ w'.cell? ⟨x, q + 15, none⟩ = some (.int .u64 K.time) ∧ w'.cell? ⟨x, q + 17, none⟩ = some (.int .u64 K.nextRecv)) (go_keep)
        (first | (go_at_call 83; refine hdue.mono ?_; rintro e w2 ⟨rfl, ⟨k0, k1, k2, k3, k4, k5, k6, k14, k15, k17⟩, HG⟩))
      go_wp2_with fail
      go_ret
      have gg : w.grownBy w2 none := grown_trans g1 HG.out (by simp)
      exact ⟨rfl, (h.same gg).mono (by omega)⟩
    · rw [if_neg (by simp [hlt])]
      go_enter Tryz.func64, Tryz.ntmps64
      go_wp2_with (at_lookup; refine wpList_map_lookOk rfl _ _ 83 rfl 28 lawU Tryz.underlying83 Tryz.zeroValue28 rfl h.pend n _ rfl hkey p.agg true (by simp [pkF, hp]) (by simp [pkF, hp]) ?_)
      rw [← hw1]
      clear hw1 c0 c1 c2 c3 c4 c5 c6 c7 c8 c9 c10 c11 c12 c13 c14 c15 c16 c17 c18 c19 c20 c21 cf
      obtain ⟨d0, d1, d2, d3, d4, d5, d6, d7, d8, d9, d10, d11, d12, d13, d14, d15, d16, d17, d18, d19, d20, d21, df⟩ := dch_cells h1.blk hq
      obtain ⟨x0, x1, x2, x3, x4, x5, x6, xf⟩ := blk7 hX1
      clear d0 d1 d2 d3 d4 d5 d6 d7 d8 d9 d10 d11 d12 d13 d16 d18 d19 d20 d21
      go_region_held3 (fun w' => w'.cell? ⟨w.heap.size, 0, none⟩ = some (.int .u64 p.seq) ∧ w'.cell? ⟨w.heap.size, 1, none⟩ = some (.int .i64 p.src) ∧ w'.cell? ⟨w.heap.size, 2, none⟩ = some (.int .i64 p.dst) ∧ w'.cell? ⟨w.heap.size, 3, none⟩ = some (.int .i64 p.coin) ∧ w'.cell? ⟨w.heap.size, 4, none⟩ = some (.int .u64 p.amount) ∧ w'.cell? ⟨w.heap.size, 5, none⟩ = some (.int .u64 p.height) ∧ w'.cell? ⟨w.heap.size, 6, none⟩ = some (.int .u64 p.time) ∧ w'.cell? ⟨x, q + 14, none⟩ = some (.int .u64 K.height) ∧ w'.cell? ⟨x, q + 15, none⟩ = some (.int .u64 K.time) ∧ w'.cell? ⟨x, q + 17, none⟩ = some (.int .u64 K.nextRecv)) (go_keep)
        (first | (go_at_call 83; refine hdue.mono ?_; rintro e w2 ⟨rfl, ⟨k0, k1, k2, k3, k4, k5, k6, k14, k15, k17⟩, HG⟩))
      have gg : w.grownBy w2 none := grown_trans g1 HG.out (by simp)
      have hup := giveUp_any (h.fresh gg) hl hq hB hp
      go_wp2_with fail
      refine hup.mono ?_
      rintro e w3 ⟨rfl, hd3⟩
      go_wp2_with fail
      go_ret
      exact ⟨rfl, (hd3.trans (grown_stepL gg)).mono (by omega)⟩

end

end Go.Proofs.YtmfdhcnnhlchbaaGreat

namespace Go.Proofs.YtmfdhcnnhlchbaaGreat
open Go.RowKit Go.Maps

section
variable {lab : Nat → Nat} {l : Nat} {w : World} {x q : Nat} {pre post : List Value} {S : Ch} {K : Hd} {a : DAt} {B : Nat}

/-- Is a packet of a lower number pending? -/
def earlierB (l : List Pk) (n : Int) : Bool := l.any fun p => decide (p.seq < n)

theorem held_inv (v : Value) (y : DataW Value × List MemPlace) (_h : heldR v = some y) : ∃ c : Value, v = c := ⟨v, rfl⟩

set_option maxRecDepth 100000 in
set_option maxHeartbeats 800000 in
theorem earlier_any (h : DevCh lab l w x pre post S K a B) (hq : pre.length = q) (hB : B ≤ 10000000) (n : Int) :
    Calls Tryz.prog 87 #[.pointer (some ⟨x, q, none⟩), .int .u64 n] w fun e w' => e = .returned (.bool (earlierB S.hd.packets n)) ∧ w.grownBy w' none := by
  have hxl : x < w.heap.size := blk_lt h.blk
  obtain ⟨c0, c1, c2, c3, c4, c5, c6, c7, c8, c9, c10, c11, c12, c13, c14, c15, c16, c17, c18, c19, c20, c21, cf⟩ := dch_cells h.blk hq
  clear c0 c1 c2 c4 c5 c6 c7 c8 c9 c10 c11 c12 c13 c14 c15 c16 c17 c18 c19 c20 c21 cf
  obtain ⟨D, hown, hsz, hsay⟩ := h.pend
  have hbl := hown.lt
  go_enter Tryz.func87, Tryz.ntmps87
  go_wp2_with (at_range; refine wpList_range_own _ rfl _ 83 rfl 26 28 lawU Tryz.underlying83 heldR a.bp S.hd.packets.length D rfl hown ?_; intro w0 hrg0 hg0 hs0)
  go_frame
  have hseq := h.good.hd.pos
  have hkeyOf : ∀ p ∈ S.hd.packets, keyOf Tryz.prog tU64 (encU p.seq) = some (.int .u64 p.seq) := fun p hp => keyU (by have := (hseq p hp).1; omega) (by have := (hseq p hp).2; omega)
  go_loopw [5] (fun _ wr => ∃ (left : Lit → Bool) (cnt : Nat), wr.ranges Tryz.prog tU64 heldR a.bp w.heap.size S.hd.packets.length D left cnt ∧ w.grownBy wr none ∧ ∀ p ∈ S.hd.packets, left (.int .u64 p.seq) = false → ¬ p.seq < n)
    (fun _ wr => wr.rangeLeft a.bp w.heap.size)
  case atStart =>
    refine ⟨_, _, hrg0, hg0, fun p hp hf => ?_⟩
    have := (hsay p.seq _ (hkeyOf p hp)).1
    rw [hf] at this
    have hs : (pkF S.hd.packets p.seq).isSome = true := by
      unfold pkF
      rw [Option.isSome_map, List.find?_isSome]
      exact ⟨p, hp, by simp⟩
    rw [hs] at this
    cases this
  case round =>
    obtain ⟨left, cnt, hrg, hgw, hdone⟩ := hrel
    go_wp2_with (first
      | (at_next; refine wpList_next_ranges _ rfl _ rfl 26 lawU heldR (Value.int .u64) (fun v : Value => v) (fun key kl hk => by obtain ⟨z, rfl, _⟩ := Maps.keyOf_int_inv Tryz.underlying26 hk; exact ⟨z, rfl⟩) held_inv a.bp w.heap.size S.hd.packets.length D left cnt rfl hrg ?_ ?_)
      | go_in)
    · intro _ hl0
      go_wp2_with fail
      go_ret
      refine ⟨?_, hgw⟩
      rw [show earlierB S.hd.packets n = false from ?_]
      · rfl
      · unfold earlierB
        rw [List.any_eq_false]
        intro p hp
        simpa using hdone p hp (hl0 _)
    · intro z c kl y y2 w1 cnt1 hkz hlz hvc hat hrg1 hlt hg1 hs1 hen
      obtain ⟨z', ez, rfl, hwz⟩ := Maps.keyOf_int_inv Tryz.underlying26 hkz
      cases ez
      have hgw1 : w.grownBy w1 none := grown_trans hgw hg1 (fun k e => .inr (by cases e; exact Nat.le_refl _))
      have hhas := Maps.has_true_of_atKey hat
      have hin : ∃ p ∈ S.hd.packets, p.seq = z := by
        have := (hsay z _ hkz).1
        rw [hhas] at this
        unfold pkF at this
        rw [Option.isSome_map] at this
        obtain ⟨p, hp, hpz⟩ := List.find?_isSome.1 this.symm
        exact ⟨p, hp, by simpa using hpz⟩
      by_cases hzn : z < n
      · go_wp2_with fail
        go_ret
        refine ⟨?_, hgw1⟩
        rw [show earlierB S.hd.packets n = true from ?_]
        · rfl
        · unfold earlierB
          rw [List.any_eq_true]
          obtain ⟨p, hp, e⟩ := hin
          exact ⟨p, hp, by simp; omega⟩
      · go_wp2_with fail
        go_roundw
        case rel =>
          refine ⟨_, cnt1, hrg1, hgw1, fun p hp hf => ?_⟩
          simp only [Bool.and_eq_false_iff] at hf
          rcases hf with hf | hf
          · have := hdone p hp hf; omega
          · have : (Lit.int .u64 p.seq).sameKey (.int .u64 z) = true := by simpa using hf
            have e := WideAt.sameKey_eq this
            simp at e
            omega
        case measure => rw [hrg1.left_eq, hrg.left_eq]; exact hlt

/-- Where n is pending: an earlier one is, just if the first one is not n. -/
theorem earlier_head {l : List Pk} {n : Int} {p : Pk} (hs : l.Pairwise (fun p r => p.seq < r.seq)) (hp : l.find? (fun r => r.seq == n) = some p) : earlierB l n = true ↔ l.head?.map (fun r => r.seq == n) = some false := by
  cases l with
  | nil => simp at hp
  | cons y r =>
    obtain ⟨h1, h2⟩ := List.pairwise_cons.1 hs
    have hpm := List.mem_of_find?_eq_some hp
    have hpn : p.seq = n := by have := List.find?_some hp; simpa using this
    unfold earlierB
    simp only [List.head?_cons, Option.map_some, Option.some.injEq]
    by_cases e : y.seq = n
    · have : (y.seq == n) = true := by simpa using e
      rw [this]
      simp only [Bool.true_eq_false, iff_false, Bool.not_eq_true]
      rw [List.any_eq_false]
      intro z hz
      simp only [List.mem_cons] at hz
      rcases hz with rfl | hz
      · simp; omega
      · have := h1 z hz; simp; omega
    · have : (y.seq == n) = false := by simpa using e
      rw [this]
      simp only [iff_true]
      rw [List.any_eq_true]
      refine ⟨y, by simp, ?_⟩
      simp only [List.mem_cons] at hpm
      rcases hpm with rfl | hpm
      · exact absurd hpn e
      · have := h1 p hpm; simp; omega

end

end Go.Proofs.YtmfdhcnnhlchbaaGreat
