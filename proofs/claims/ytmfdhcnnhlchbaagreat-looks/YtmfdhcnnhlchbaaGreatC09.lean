import Derived.Test.YtmfdhcnnhlchbaaGreatC06
namespace Go.Proofs.YtmfdhcnnhlchbaaGreat
open Go.RowKit

/-- The first packet of the number n lies at the place k. -/
structure FoundAt (l : List Pk) (n : Int) (k : Nat) (p : Pk) : Prop where
  here : l[k]? = some p
  is : (p.seq == n) = true
  before : ∀ j q, j < k → l[j]? = some q → (q.seq == n) = false

theorem FoundAt.find {l : List Pk} {n : Int} {k : Nat} {p : Pk} (F : FoundAt l n k p) : l.find? (fun p => p.seq == n) = some p := by
  rw [List.find?_eq_some_iff_getElem]
  obtain ⟨hk, hp⟩ := List.getElem?_eq_some_iff.1 F.here
  refine ⟨F.is, k, hk, hp, fun j hj => ?_⟩
  have := F.before j (l[j]'(by omega)) hj (List.getElem?_eq_getElem _)
  simpa using this

theorem found_or (l : List Pk) (n : Int) : (∃ k p, FoundAt l n k p) ∨ (∀ q ∈ l, (q.seq == n) = false) := by
  induction l with
  | nil => exact .inr fun q hq => by simp at hq
  | cons x r ih =>
    cases hx : (x.seq == n)
    · rcases ih with ⟨k, p, F⟩ | h
      · refine .inl ⟨k + 1, p, by simpa using F.here, F.is, fun j q hj hq => ?_⟩
        cases j with
        | zero => simp at hq; subst hq; exact hx
        | succ j => exact F.before j q (by omega) (by simpa using hq)
      · refine .inr fun q hq => ?_
        rcases List.mem_cons.1 hq with rfl | hq
        · exact hx
        · exact h q hq
    · exact .inl ⟨0, x, rfl, hx, fun j q hj => by omega⟩

theorem notFound {l : List Pk} {n : Int} (h : ∀ q ∈ l, (q.seq == n) = false) : l.find? (fun p => p.seq == n) = none := by
  rw [List.find?_eq_none]
  intro q hq
  simpa using h q hq

theorem FoundAt.erase {l : List Pk} {n : Int} {k : Nat} {p : Pk} (F : FoundAt l n k p) : l.eraseP (fun p => p.seq == n) = l.take k ++ l.drop (k + 1) := by
  obtain ⟨hh, hi, hb⟩ := F
  induction l generalizing k with
  | nil => simp at hh
  | cons x r ih =>
    cases k with
    | zero =>
      simp at hh
      subst hh
      simp [hi]
    | succ k =>
      have hx := hb 0 x (by omega) rfl
      rw [List.eraseP_cons]
      simp only [hx, cond_false, List.take_succ_cons, List.drop_succ_cons, List.cons_append]
      congr 1
      exact ih (by simpa using hh) (fun j q hj hq => hb (j + 1) q (by omega) (by simpa using hq))

theorem FoundAt.head {l : List Pk} {n : Int} {k : Nat} {p : Pk} (F : FoundAt l n k p) : (l.head?.map (fun q => q.seq == n)) = some (decide (k = 0)) := by
  cases l with
  | nil => have := F.here; simp at this
  | cons x r =>
    cases k with
    | zero => have := F.here; simp at this; subst this; simpa using F.is
    | succ k => have := F.before 0 x (by omega) rfl; simpa using this

set_option maxRecDepth 100000 in
set_option maxHeartbeats 800000 in
theorem rfind_yes {w : World} {g cap k0 : Nat} {l : List Pk} {n : Int} {p : Pk} (F : FoundAt l n k0 p) (h : w.ownsRow 0 tPk 7 (.slice (some ⟨g, 0, none⟩) l.length cap) l.length (l.flatMap Pk.cells)) (bp : l.length ≤ 1048576) :
    Calls Tryz.prog 69 #[.slice (some ⟨g, 0, none⟩) l.length cap, .int .u64 n] w fun e w' => e = .returned (.int .i64 k0) ∧ w.grownBy w' none := by
  have hk0 : k0 < l.length := (List.getElem?_eq_some_iff.1 F.here).1
  have hg : g < w.heap.size := owns_lt h rfl
  go_enter Tryz.func69, Tryz.ntmps69
  go_wp2_with fail
  go_loopw [9] (fun i wr => ∃ k : Nat, i = .int .i64 k ∧ k ≤ k0 ∧ w.grownBy wr none) (fun i _ => k0 + 1 - (intOf i).toNat)
  case atStart => exact ⟨0, rfl, Nat.zero_le _, grown_refl _ _⟩
  case round =>
    obtain ⟨k, rfl, hk, gw⟩ := hrel
    obtain ⟨q, hq⟩ : ∃ q, l[k]? = some q := ⟨_, List.getElem?_eq_getElem (by omega)⟩
    have hrow : wr.ownsRow 0 tPk 7 (.slice (some ⟨g, 0, none⟩) l.length cap) l.length (l.flatMap Pk.cells) := owns_keep h fun q e => gw.block q (owns_lt h e) (by simp)
    obtain ⟨p0, p1, p2, p3, p4, p5, p6⟩ := pk_cells hrow hq
    have hgr : g < wr.heap.size := by have := gw.size; omega
    have hkl : (k : Int) < (l.length : Int) := by omega
    by_cases e : k = k0
    · have hs : (q.seq == n) = true := by have := F.here; rw [← e, hq] at this; cases this; exact F.is
      have HE : Hid (k = k0) := e
      clear e hrow hq
      go_wp2_with fail
      go_ret
      exact ⟨congrArg (fun z : Nat => Ending.returned (.int .i64 (z : Int))) HE.out, grown_alloc gw _⟩
    · have hs : (q.seq == n) = false := F.before k q (by omega) hq
      clear hrow hq
      go_wp2_with fail
      go_roundw
      case rel => exact ⟨k + 1, by go_num, by omega, grown_alloc gw _⟩
      case measure => simp [intOf]; omega

set_option maxRecDepth 100000 in
set_option maxHeartbeats 800000 in
theorem rfind_none {w : World} {g cap : Nat} {l : List Pk} {n : Int} (F : ∀ q ∈ l, (q.seq == n) = false) (h : w.ownsRow 0 tPk 7 (.slice (some ⟨g, 0, none⟩) l.length cap) l.length (l.flatMap Pk.cells)) (bp : l.length ≤ 1048576) :
    Calls Tryz.prog 69 #[.slice (some ⟨g, 0, none⟩) l.length cap, .int .u64 n] w fun e w' => e = .returned (.int .i64 (-1)) ∧ w.grownBy w' none := by
  have hg : g < w.heap.size := owns_lt h rfl
  go_enter Tryz.func69, Tryz.ntmps69
  go_wp2_with fail
  go_loopw [9] (fun i wr => ∃ k : Nat, i = .int .i64 k ∧ k ≤ l.length ∧ w.grownBy wr none) (fun i _ => l.length - (intOf i).toNat)
  case atStart => exact ⟨0, rfl, Nat.zero_le _, grown_refl _ _⟩
  case round =>
    obtain ⟨k, rfl, hk, gw⟩ := hrel
    by_cases hlt : k < l.length
    · obtain ⟨q, hq⟩ : ∃ q, l[k]? = some q := ⟨_, List.getElem?_eq_getElem (by omega)⟩
      have hrow : wr.ownsRow 0 tPk 7 (.slice (some ⟨g, 0, none⟩) l.length cap) l.length (l.flatMap Pk.cells) := owns_keep h fun q e => gw.block q (owns_lt h e) (by simp)
      obtain ⟨p0, p1, p2, p3, p4, p5, p6⟩ := pk_cells hrow hq
      have hgr : g < wr.heap.size := by have := gw.size; omega
      have hkl : (k : Int) < (l.length : Int) := by omega
      have hs : (q.seq == n) = false := F q (List.mem_of_getElem? hq)
      clear hrow hq
      go_wp2_with fail
      go_roundw
      case rel => exact ⟨k + 1, by go_num, by omega, grown_alloc gw _⟩
      case measure => simp [intOf]; omega
    · go_wp2_with fail
      go_ret
      exact ⟨rfl, gw⟩

set_option maxRecDepth 100000 in
theorem rfind_nil {w : World} {a : Option Addr} {cap : Nat} {n : Int} : Calls Tryz.prog 69 #[.slice a 0 cap, .int .u64 n] w fun e w' => e = .returned (.int .i64 (-1)) ∧ w.grownBy w' none := by
  go_enter Tryz.func69, Tryz.ntmps69
  go_wp2_with fail
  refine wp_loop_rounds 1 ?_
  rw [rounds_succ]
  go_wp2_with fail
  go_ret
  exact ⟨rfl, grown_refl _ _⟩

theorem rfind_no {w : World} {a : Option Addr} {cap : Nat} {l : List Pk} {n : Int} (F : ∀ q ∈ l, (q.seq == n) = false) (h : ownsPk w (.slice a l.length cap) l) (bp : l.length ≤ 1048576) :
    Calls Tryz.prog 69 #[.slice a l.length cap, .int .u64 n] w fun e w' => e = .returned (.int .i64 (-1)) ∧ w.grownBy w' none := by
  by_cases hl : l = []
  · subst hl; exact rfind_nil
  · obtain ⟨g, rfl, _, _⟩ := owns_some' h (List.length_pos_iff.2 hl)
    exact rfind_none F h bp

set_option maxRecDepth 100000 in
theorem rdue_any (p : Pk) (h t : Int) (w : World) : Calls Tryz.prog 70 #[p.agg, .int .u64 h, .int .u64 t] w fun e w' => e = .returned (.bool (dueB p h t)) ∧ w.grownBy w' none := by
  by_cases h1 : 0 < p.height
  · by_cases h2 : p.height ≤ h
    · go_enter Tryz.func70, Tryz.ntmps70
      go_wp2_with fail
      go_ret
      exact ⟨by rw [show dueB p h t = true from by unfold dueB; simp; omega]; rfl, World.grownBy_alloc w _ none⟩
    · by_cases h3 : 0 < p.time
      · by_cases h4 : p.time ≤ t
        · go_enter Tryz.func70, Tryz.ntmps70
          go_wp2_with fail
          go_ret
          exact ⟨by rw [show dueB p h t = true from by unfold dueB; simp; omega]; rfl, World.grownBy_alloc w _ none⟩
        · go_enter Tryz.func70, Tryz.ntmps70
          go_wp2_with fail
          go_ret
          exact ⟨by rw [show dueB p h t = false from by unfold dueB; simp; omega]; rfl, World.grownBy_alloc w _ none⟩
      · go_enter Tryz.func70, Tryz.ntmps70
        go_wp2_with fail
        go_ret
        exact ⟨by rw [show dueB p h t = false from by unfold dueB; simp; omega]; rfl, World.grownBy_alloc w _ none⟩
  · by_cases h3 : 0 < p.time
    · by_cases h4 : p.time ≤ t
      · go_enter Tryz.func70, Tryz.ntmps70
        go_wp2_with fail
        go_ret
        exact ⟨by rw [show dueB p h t = true from by unfold dueB; simp; omega]; rfl, World.grownBy_alloc w _ none⟩
      · go_enter Tryz.func70, Tryz.ntmps70
        go_wp2_with fail
        go_ret
        exact ⟨by rw [show dueB p h t = false from by unfold dueB; simp; omega]; rfl, World.grownBy_alloc w _ none⟩
    · go_enter Tryz.func70, Tryz.ntmps70
      go_wp2_with fail
      go_ret
      exact ⟨by rw [show dueB p h t = false from by unfold dueB; simp; omega]; rfl, World.grownBy_alloc w _ none⟩

end Go.Proofs.YtmfdhcnnhlchbaaGreat

namespace Go.Proofs.YtmfdhcnnhlchbaaGreat
open Go.RowKit

section
variable {own : Nat → Nat} {o : Nat} {w : World} {b : Nat} {S : Ch} {a : At} {p : Pk}

theorem credit_mid {w1 : World} {user coin n : Int} (off : Nat) (v : Int)
    (hB1 : w1.heap[b]? = some (.cells (chCells (S.put (hasAt user coin) (IntKind.u64.wrap (S.get (hasAt user coin) + n))) a).toArray tCh (0, 0)))
    (ho : coin = S.n ∧ off = 13 ∧ v = IntKind.u64.wrap (S.locked - n) ∨ coin ≠ S.n ∧ off = 14 ∧ v = IntKind.u64.wrap (S.about + n)) :
    (w1.setCell ⟨b, off, none⟩ (.int .u64 v)).heap[b]? = some (.cells (chCells (S.credit user coin n) a).toArray tCh (0, 0)) := by
  rw [setCell_same hB1]
  rcases ho with ⟨h1, rfl, rfl⟩ | ⟨h1, rfl, rfl⟩ <;> simp [chCells, Ch.credit, h1] <;> rfl

set_option maxRecDepth 100000 in
set_option maxHeartbeats 1600000 in
theorem credit_any (h : RefCh own o w b S a) (ho : o ≠ 0) {user coin n : Int} (hu0 : 0 ≤ user) (hu1 : user ≤ 2) (hc0 : 0 ≤ coin) (hc1 : coin ≤ 1) :
    Calls Tryz.prog 71 #[.pointer (some ⟨b, 0, none⟩), .int .i64 user, .int .i64 coin, .int .u64 n] w fun e w' => e = .returned (.tuple #[]) ∧ RefTo own o w b (S.credit user coin n) w' := by
  have hkk : hasAt user coin < 6 := by unfold hasAt; omega
  have hx := has_cell h.blk hkk
  rw [show 7 + hasAt user coin = 7 + user.toNat * 2 + coin.toNat from by unfold hasAt; omega] at hx
  obtain ⟨c0, c1, c2, c3, c4, c5, c6, c7, c8, c9, c10, c11, c12, c13, c14, c15, c16, c17, hf⟩ := ch_cells h.blk
  have hbl : b < w.heap.size := blk_lt h.blk
  generalize hG : S.get (hasAt user coin) = G at hx
  clear c0 c1 c2 c3 c4 c5 c7 c8 c9 c10 c11 c12 c15 c16 c17
  go_enter Tryz.func71, Tryz.ntmps71
  go_wp2_with fail
  go_region
  all_goals
    obtain ⟨w1, hw1⟩ : ∃ w1 : World, w1 = (w.setCell ⟨b, 7 + user.toNat * 2 + coin.toNat, none⟩ (.int .u64 (IntKind.u64.wrap (G + n)))).drew := ⟨_, rfl⟩
    rw [← hw1]
    have g1 : w.grownBy w1 (some b) := by rw [hw1]; exact grown_drew (grown_set (grown_refl w _) _ _ (.inl rfl))
    have hB1 : w1.heap[b]? = some (.cells (chCells (S.put (hasAt user coin) (IntKind.u64.wrap (S.get (hasAt user coin) + n))) a).toArray tCh (0, 0)) := by
      rw [hw1, Nat.add_assoc, hG]
      exact has_set h.blk hkk _
    clear c6 c13 c14 hf hx hw1
    have hbl1 : b < w1.heap.size := blk_lt hB1
    obtain ⟨c0, c1, c2, c3, c4, c5, c6, c7, c8, c9, c10, c11, c12, c13, c14, c15, c16, c17, hf⟩ := ch_cells hB1
    change w1.cell? ⟨b, 6, none⟩ = some (.int .i64 S.n) at c6
    change w1.cell? ⟨b, 13, none⟩ = some (.int .u64 S.locked) at c13
    change w1.cell? ⟨b, 14, none⟩ = some (.int .u64 S.about) at c14
    clear c0 c1 c2 c3 c4 c5 c7 c8 c9 c10 c11 c12 c15 c16 c17
    have hcn : (coin == S.n) = true ∨ (coin == S.n) = false := by cases (coin == S.n) <;> simp
    rcases hcn with hcn | hcn
    · go_wp2_with fail
      go_end0
      exact ⟨rfl, cell_to h (grown_set g1 _ _ (.inl rfl)) ho (credit_mid 13 _ hB1 (.inl ⟨beq_iff_eq.1 hcn, rfl, rfl⟩)) rfl rfl rfl⟩
    · go_wp2_with fail
      go_end0
      exact ⟨rfl, cell_to h (grown_set g1 _ _ (.inl rfl)) ho (credit_mid 14 _ hB1 (.inr ⟨beq_eq_false_iff_ne.1 hcn, rfl, rfl⟩)) rfl rfl rfl⟩

theorem flat_len (l : List Pk) : (l.flatMap Pk.cells).length = l.length * 7 := by
  induction l with
  | nil => rfl
  | cons x r ih => rw [List.flatMap_cons, List.length_append, ih, List.length_cons, show x.cells.length = 7 from rfl]; omega

/-- The cells of a part of a row. -/
theorem part_src {w : World} {g n cap k : Nat} {l : List Pk} (h : w.ownsRow 0 tPk 7 (.slice (some ⟨g, 0, none⟩) n cap) n (l.flatMap Pk.cells)) (hk : k ≤ l.length) (c : Nat) :
    srcRow w 7 (.slice (some ⟨g, 0, none⟩) k c) k ((l.take k).flatMap Pk.cells) := by
  have hc := h.cells (g := g) rfl
  refine ⟨by rw [flat_len]; simp [hk], .inr ⟨_, _, rfl, fun j u hj => ?_⟩⟩
  refine hc j u ?_
  have e : l.flatMap Pk.cells = (l.take k).flatMap Pk.cells ++ (l.drop k).flatMap Pk.cells := by rw [← List.flatMap_append, List.take_append_drop]
  rw [e, List.getElem?_append_left (List.getElem?_eq_some_iff.1 hj).1]
  exact hj

theorem rest_src {w : World} {g n cap k m : Nat} {l : List Pk} (h : w.ownsRow 0 tPk 7 (.slice (some ⟨g, 0, none⟩) n cap) n (l.flatMap Pk.cells)) (hk : k ≤ l.length) (hm : m = l.length - k) (c : Nat) :
    srcRow w 7 (.slice (some ⟨g, k * 7, none⟩) m c) m ((l.drop k).flatMap Pk.cells) := by
  have hc := h.cells (g := g) rfl
  refine ⟨by rw [flat_len]; simp [hm], .inr ⟨_, _, rfl, fun j u hj => ?_⟩⟩
  have e : l.flatMap Pk.cells = (l.take k).flatMap Pk.cells ++ (l.drop k).flatMap Pk.cells := by rw [← List.flatMap_append, List.take_append_drop]
  have hl : ((l.take k).flatMap Pk.cells).length = k * 7 := by rw [flat_len]; simp [hk]
  have := hc (k * 7 + j) u (by rw [e, List.getElem?_append_right (by omega), hl, Nat.add_sub_cancel_left]; exact hj)
  rw [Addr.add_lit] at this ⊢
  simpa using this

theorem gone_done {n : Int} {k : Nat} (h : RefCh own o w b S a) (ho : o ≠ 0) (F : FoundAt S.hd.packets n k p) {w1 w2 : World} {a1 a2 : Option Addr} {k1 k2 m : Nat} (hm : m = k + (S.hd.packets.length - (k + 1)))
    (g1 : w.grownBy w1 none) (f1 : ∀ q, (Value.slice a1 k k1).ownBlock = some q → w.heap.size ≤ q) (g2 : w1.grownBy w2 (Value.slice a1 k k1).ownBlock) (f2 : fresh w1 (.slice a1 k k1) (.slice a2 m k2))
    (own2 : w2.ownsRow 0 tPk 7 (.slice a2 m k2) m ((S.hd.packets.take k).flatMap Pk.cells ++ (S.hd.packets.drop (k + 1)).flatMap Pk.cells)) :
    RefTo own o w b (S.gone n) (w2.setCell ⟨b, 4, none⟩ (.slice a2 m k2)) := by
  have hbl := blk_lt h.blk
  have hkl : k < S.hd.packets.length := (List.getElem?_eq_some_iff.1 F.here).1
  have z1 := g1.size
  have z2 := g2.size
  have hk : ∀ q, q < w.heap.size → q ≠ b → some q ≠ none → (w2.setCell ⟨b, 4, none⟩ (.slice a2 m k2)).heap[q]? = w.heap[q]? := by
    intro q hq hqb _
    rw [setCell_other _ _ _ hqb, g2.block q (by omega) (fun e => by have := f1 q e.symm; omega), g1.block q hq (by simp)]
  have hB2 : w2.heap[b]? = some (.cells (chCells S a).toArray tCh (0, 0)) := by
    rw [g2.block b (by omega) (fun e => by have := f1 b e.symm; omega), g1.block b hbl (by simp)]; exact h.blk
  have hnew : ∀ q, (Value.slice a2 m k2).ownBlock = some q → w.heap.size ≤ q := by
    intro q e
    rcases f2 q e with e1 | e1
    · exact f1 q e1
    · omega
  have hnb : some b ≠ (Value.slice a2 m k2).ownBlock := fun e => by have := hnew b e.symm; omega
  have hlen : (S.gone n).hd.packets.length = m := by
    simp only [Ch.gone, F.erase, List.length_append, List.length_take, List.length_drop]; omega
  refine (ref_build (w' := w2.setCell ⟨b, 4, none⟩ (.slice a2 m k2)) (S' := S.gone n) (a' := { a with ap := a2, cp := k2 }) h (g2.os.trans g1.os) (g2.tape.trans g1.tape) (g2.output.trans g1.output) (by rw [setCell_size]; omega) (fun q hq hne => hk q hq (fun e => hne (by rw [e, h.lb])) (by simp)) ho ?_ ?_ ?_ ?_ ?_ ?_ ?_ h.heads (fun x hx => .inl hx)).elim fun own' h' => ⟨own', _, h'⟩
  · rw [setCell_same hB2]
    simp only [chCells, At.vp, hlen]
    rfl
  · refine owns_keep (w := w2) ?_ fun q e => ?_
    · have e1 : (S.gone n).hd.packets.flatMap Pk.cells = (S.hd.packets.take k).flatMap Pk.cells ++ (S.hd.packets.drop (k + 1)).flatMap Pk.cells := by simp only [Ch.gone, F.erase, List.flatMap_append]
      simp only [At.vp, hlen, e1]
      exact own2
    · rw [setCell_other]
      intro e1
      simp only at e1
      subst e1
      exact hnb (by simpa only [At.vp, hlen] using e.symm)
  · intro q e hq
    have := hnew q (by simpa only [At.vp, hlen] using e)
    omega
  · exact row_keep h.an h.blk (by decide) (fun _ _ => by simp) hk
  · exact fun q e _ => h.lan q e
  · exact row_keep h.hd h.blk (by decide) (fun _ _ => by simp) hk
  · exact fun q e _ => h.lhd q e

set_option maxRecDepth 100000 in
set_option maxHeartbeats 1600000 in
theorem gone_any {n : Int} {k : Nat} (h : RefCh own o w b S a) (ho : o ≠ 0) (F : FoundAt S.hd.packets n k p) (bp : S.hd.packets.length ≤ 1048576) :
    Calls Tryz.prog 72 #[.pointer (some ⟨b, 0, none⟩), .int .i64 k] w fun e w' => e = .returned (.tuple #[]) ∧ RefTo own o w b (S.gone n) w' := by
  obtain ⟨c0, c1, c2, c3, c4, c5, c6, c7, c8, c9, c10, c11, c12, c13, c14, c15, c16, c17, hf⟩ := ch_cells h.blk
  have hbl : b < w.heap.size := blk_lt h.blk
  have hkl : k < S.hd.packets.length := (List.getElem?_eq_some_iff.1 F.here).1
  obtain ⟨g, hap, hcap, hmax⟩ := owns_some' h.pk (by omega)
  have hrow := h.pk
  simp only [ownsPk, At.vp, hap] at hrow
  rw [hap] at c4
  have hgl : g < w.heap.size := owns_lt hrow rfl
  obtain ⟨i0, hi0, z0, s0, y0⟩ := info_parts infoPk
  obtain ⟨L, hL⟩ : ∃ L, L = S.hd.packets.length := ⟨_, rfl⟩
  rw [← hL] at c4
  have hkc : (k : Int) ≤ (a.cp : Int) := by omega
  have HL : Hid (L = S.hd.packets.length) := hL
  have hkL : k < L := by omega
  have hkL2 : L ≤ a.cp := by omega
  have hLb : L ≤ 1048576 := by omega
  clear hL
  clear c0 c1 c2 c3 c5 c6 c7 c8 c9 c10 c11 c12 c13 c14 c15 c16 c17
  go_enter Tryz.func72, Tryz.ntmps72
  go_wp2_with (at_builtin; refine wpList_append_rows rfl (.const (.slice none 0 0)) (.tmp 11) 57 rfl 28 i0 _ 7 56 Tryz.underlying57 hi0 z0 s0 y0 rfl (by decide) (.slice none 0 0) 0 [] rfl (World.ownsRow_nil _ _ _ _) (.slice (some ⟨g, 0, none⟩) k a.cp) k ((S.hd.packets.take k).flatMap Pk.cells) ?hx ?hsrc (pks_one _) ?hb1 ?hb2 ?_)
  case hx => first | rfl | simp [Act.eval]
  case hsrc => exact part_src hrow (by omega) _
  case hb1 => omega
  case hb2 => omega
  intro v1 w1 own1 grow1 lab1
  replace own1 : w1.ownsRow 0 tPk 7 v1 k ((S.hd.packets.take k).flatMap Pk.cells) := by simpa using own1
  obtain ⟨a1, k1, hv1⟩ := owns_form own1
  rw [hv1] at own1 lab1 ⊢
  have g1 : w.grownBy w1 none := grow1
  have f1 : ∀ q, (Value.slice a1 k k1).ownBlock = some q → w.heap.size ≤ q := fun q e => (lab1 q e).elim (fun e1 => by simp [Value.ownBlock] at e1) id
  have hB1 : w1.heap[b]? = some (.cells (chCells S a).toArray tCh (0, 0)) := (g1.block b hbl (by simp)).trans h.blk
  obtain ⟨c0, c1, c2, c3, c4', c5, c6, c7, c8, c9, c10, c11, c12, c13, c14, c15, c16, c17, hf1⟩ := ch_cells hB1
  rw [hap, ← HL.out] at c4'
  have hrow1 : w1.ownsRow 0 tPk 7 (.slice (some ⟨g, 0, none⟩) S.hd.packets.length a.cp) S.hd.packets.length (S.hd.packets.flatMap Pk.cells) := owns_keep hrow fun q e => g1.block q (owns_lt hrow e) (by simp)
  have hb1 := blk_lt hB1
  clear c4 hf c0 c1 c2 c3 c5 c6 c7 c8 c9 c10 c11 c12 c13 c14 c15 c16 c17 grow1 lab1
  have hk1 : ((k : Int) + 1) ≤ (L : Int) := by omega
  by_cases hcc : a.cp = k + 1
  · have hLk : L = k + 1 := by omega
    obtain ⟨hd0, hd1⟩ : S.hd.packets.drop (k + 1) = [] ∧ S.hd.packets.length - (k + 1) = 0 := ⟨List.drop_eq_nil_of_le (by rw [← HL.out]; omega), by rw [← HL.out]; omega⟩
    have HC : Hid (a.cp = k + 1 ∧ L = k + 1) := ⟨hcc, hLk⟩
    rw [hcc, hLk] at c4'
    clear hcc hLk hkc hkL hkL2 hLb hk1 hcap hmax
    have hkk : (k : Int) ≤ 1048576 := by have := HL.out; omega
    go_wp2_with (at_builtin; refine wpList_append_rows rfl (.tmp 14) (.tmp 22) 57 rfl 28 i0 _ 7 56 Tryz.underlying57 hi0 z0 s0 y0 rfl (by decide) (.slice a1 k k1) k ((S.hd.packets.take k).flatMap Pk.cells) ?hs own1 (.slice (some ⟨g, 0, none⟩) 0 0) 0 [] ?hx ?hsrc ?hone ?hb1 ?hb2 ?_)
    case hs => first | rfl | simp [Act.eval]
    case hx => first | rfl | simp [Act.eval]
    case hsrc => exact ⟨rfl, .inr ⟨_, _, rfl, fun j u hj => by simp at hj⟩⟩
    case hone => intro u hu; simp at hu
    case hb1 => omega
    case hb2 => omega
    intro v2 w2 own2 grow2 lab2
    obtain ⟨a2, k2, hv2⟩ := owns_form own2
    subst hv2
    have hR := gone_done h ho F (m := k) (by rw [hd1]; rfl) g1 f1 grow2 lab2 (by rw [hd0]; simpa using own2)
    have hB2 : w2.heap[b]? = _ := (grow2.block b hb1 (fun e => by have := f1 b e.symm; omega)).trans hB1
    obtain ⟨d0, d1, d2, d3, d4, d5, d6, d7, d8, d9, d10, d11, d12, d13, d14, d15, d16, d17, df⟩ := ch_cells hB2
    clear c4' hf1
    go_wp2_with fail
    go_end0
    exact ⟨rfl, hR⟩
  · have hcc' : k + 1 < a.cp := by omega
    have hci : ¬ ((a.cp : Int) = (k : Int) + 1) := by omega
    go_wp2_with (at_builtin; refine wpList_append_rows rfl (.tmp 14) (.tmp 22) 57 rfl 28 i0 _ 7 56 Tryz.underlying57 hi0 z0 s0 y0 rfl (by decide) (.slice a1 k k1) k ((S.hd.packets.take k).flatMap Pk.cells) ?hs own1 (.slice (some ⟨g, (k + 1) * 7, none⟩) (L - (k + 1)) (a.cp - (k + 1))) (L - (k + 1)) ((S.hd.packets.drop (k + 1)).flatMap Pk.cells) ?hx ?hsrc ?hone ?hb1 ?hb2 ?_)
    case hs => first | rfl | simp [Act.eval]
    case hx => first | rfl | simp [Act.eval]
    case hsrc => exact rest_src hrow1 (by omega) (by rw [HL.out]) _
    case hone => exact pks_one _
    case hb1 => omega
    case hb2 => omega
    intro v2 w2 own2 grow2 lab2
    obtain ⟨a2, k2, hv2⟩ := owns_form own2
    subst hv2
    have hR := gone_done h ho F (m := k + (L - (k + 1))) (by rw [HL.out]) g1 f1 grow2 lab2 own2
    have hB2 : w2.heap[b]? = _ := (grow2.block b hb1 (fun e => by have := f1 b e.symm; omega)).trans hB1
    obtain ⟨d0, d1, d2, d3, d4, d5, d6, d7, d8, d9, d10, d11, d12, d13, d14, d15, d16, d17, df⟩ := ch_cells hB2
    clear c4' hf1
    go_wp2_with fail
    go_end0
    exact ⟨rfl, hR⟩

end

end Go.Proofs.YtmfdhcnnhlchbaaGreat
