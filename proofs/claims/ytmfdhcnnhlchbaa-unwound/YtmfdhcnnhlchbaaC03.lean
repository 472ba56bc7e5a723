import Derived.Test.YtmfdhcnnhlchbaaC02
import Derived.RangeFuncNested
import Derived.RangeFuncBound
import Derived.RangeFuncCalls
import Derived.RangeFuncLeaves
import Derived.RangeFuncBox
import Derived.Sort.MapsRangeIn
import Derived.Sort.KeysCollected
import Derived.Maps.AppendAt
import Derived.Shelf.Abstract
import Derived.WalkKit
import Derived.OwnWalkIn
import Derived.TacticsInMore
import Derived.RegionIn
import Derived.LoopNIn
import Derived.LoopIn
namespace Go.Proofs.Ytmfdhcnnhlchbaa
open Go.RowKit Go.Maps Go.Sort Go.Shelf

attribute [local go_sem] Oper.semAt_some

theorem keyOf_u64 {key : Value} {kl : Lit} (h : keyOf Try.prog tU64 key = some kl) : ∃ x : Int, key = encU x ∧ kl = .int .u64 x ∧ (Lit.int .u64 x).wf = true := by
  cases key <;> simp [keyOf, Try.underlying28, mapKey] at h
  rename_i q a
  obtain ⟨⟨rfl, hw⟩, rfl⟩ := h
  exact ⟨a, rfl, rfl, hw⟩

/-- No number twice; a number has come just where the map has it and it is not still to come. -/
def Come (D : DataW Value) (left : Lit → Bool) (ss : List Int) : Prop := ss.Nodup ∧ ∀ x, x ∈ ss ↔ (has D (.int .u64 x) = true ∧ left (.int .u64 x) = false)

theorem come_start (D : DataW Value) : Come D (has D) [] := ⟨List.nodup_nil, fun x => by cases has D (.int .u64 x) <;> simp⟩

theorem come_step {D : DataW Value} {left : Lit → Bool} {ss : List Int} (h : Come D left ss) {x : Int} {y : DataW Value} (hlk : left (.int .u64 x) = true) (hat : ∀ zd, D.atKey (.int .u64 x) zd = y) : Come D (fun z => left z && !z.sameKey (.int .u64 x)) (ss ++ [x]) := by
  have hnew : x ∉ ss := fun hx => by have := ((h.2 x).1 hx).2; rw [hlk] at this; cases this
  refine ⟨List.nodup_append.2 ⟨h.1, by simp, ?_⟩, ?_⟩
  · intro a ha b hb
    simp at hb
    subst hb
    intro e
    exact hnew (e ▸ ha)
  · intro y
    by_cases hy : y = x
    · subst hy
      simp [has_true_of_atKey hat, Lit.sameKey]
    · simp [h.2 y, hy, Lit.sameKey]

abbrev fKeys : FuncId := 26

set_option maxRecDepth 100000 in
set_option maxHeartbeats 1000000 in
/-- The iterator of maps.Keys. -/
theorem keys_seq (F : Fence) (n : Nat) (h1 : F.fn 41) (hro : F.round = none) (hn : 1 ≤ n) (l Bm b nn : Nat) (D : DataW Value) (J Jx : List Int → World → Prop)
    (hY : ∀ pre x W, J pre W → pre.length < Maps.size D → YieldAt F (n - 1) Try.prog l #[encU x] W fun e W' =>
      (e = .returned (.bool true) ∧ J (pre ++ [x]) W' ∧ KeepsWalks W W') ∨ (e = .returned (.bool false) ∧ Jx (pre ++ [x]) W'))
    (W : World) (hJ : AbidesFrom W.heap.size J) (hm : W.cell? ⟨Bm, 0, none⟩ = some (.map (some b))) (hown : W.ownsMap Try.prog tU64 heldR b nn D) (h0 : J [] W) :
    CallsIn F n Try.prog 41 #[.func (.yield l) #[] #[], .pointer (some ⟨Bm, 0, none⟩)] W fun e W' => (∃ v, e = .returned v) ∧
      ((∃ ss : List Int, (ss.Nodup ∧ ∀ x, x ∈ ss ↔ has D (.int .u64 x) = true) ∧ J ss W') ∨ (∃ pre : List Int, True ∧ Jx pre W')) := by
  refine callsIn_of_wp Try.func41 rfl h1 ?_ hro
  simp only [Try.ntmps41, List.size_toArray, List.length_cons, List.length_nil, Nat.reduceAdd, Nat.reduceSub, Array.replicate_succ, Array.replicate_zero, List.push_toArray, List.append_toArray, List.nil_append, List.cons_append]
  gi_wp2_with (first
    | (gi_at_range; refine wpListIn_range_own _ rfl _ 64 rfl 28 43 lawU Try.underlying64 _ b nn _ rfl hown ?_; intro w0 hrg0 hg0 hs0)
    | gi_in)
  go_frame
  gi_loopw [3] (fun _ wr => ∃ (left : Lit → Bool) (cnt : Nat) (ss : List Int), wr.ranges Try.prog tU64 heldR b W.heap.size nn D left cnt ∧ ss.length + cnt ≤ Maps.size D ∧ Come D left ss ∧ J ss wr)
    (fun _ wr => wr.rangeLeft b W.heap.size)
  case atStart => exact ⟨_, _, [], hrg0, by simp, come_start D, hJ [] W w0 none h0 hg0 (fun r e => by cases e)⟩
  case round =>
    obtain ⟨left, cnt, ss, hrg, hcs, hC, hJs⟩ := hrel
    gi_wp2_with (first
      | (gi_at_next; refine wpListIn_next_ranges _ rfl _ rfl 28 lawU heldR encU id (fun key kl hk => by obtain ⟨x, hx, _⟩ := keyOf_u64 hk; exact ⟨x, hx⟩) (fun v _ _ => ⟨v, rfl⟩) b W.heap.size nn _ _ _ rfl hrg ?_ ?_)
      | gi_in)
    · intro hc0 hl0
      gi_wp2
      go_end0
      exact ⟨⟨_, rfl⟩, .inl ⟨ss, ⟨hC.1, fun x => by rw [hC.2 x, hl0]; simp⟩, hJs⟩⟩
    · intro x c kl yd yp w2 cnt2 hkey hlk hv hat hrg2 hlt hg2 hs2 hen
      obtain ⟨x', ex, rfl, _⟩ := keyOf_u64 hkey
      obtain rfl : x = x' := encU_inj _ _ ex
      have hJ2 : J ss w2 := hJ ss wr w2 (some W.heap.size) hJs hg2 (fun r e => by cases e; exact ⟨Nat.le_refl _, hrg.iter_walk⟩)
      obtain ⟨fn, tmps, assign, body, hy, hR⟩ := hY ss x w2 hJ2 (by omega)
      clear hs2
      gi_wp2
      refine hR.mono ?_
      have hC2 := come_step hC hlk hat
      rintro e W3 (⟨rfl, hJ3, hk3⟩ | ⟨rfl, hJx3⟩)
      · gi_wp2
        have hrg3 := hrg2.of_walks hk3
        go_roundw
        case rel => exact ⟨_, cnt2, ss ++ [x], hrg3, by simp; omega, hC2, hJ3⟩
        case measure => rw [hrg3.left_eq, hrg.left_eq]; exact hlt
      · gi_wp2
        refine bodyPost_ret (results_none rfl _ _ _) rfl ?_
        exact ⟨⟨_, rfl⟩, .inr ⟨ss ++ [x], trivial, hJx3⟩⟩

/-- What maps.Keys has handed back gives the keys. -/
theorem keys_stops (F : Fence) (n : Nat) (h1 : F.fn 41) (hro : F.round = none) (hn : 1 ≤ n) (Bm b nn : Nat) (D : DataW Value) (w : World) (hBm : Bm < w.heap.size)
    (hm : w.cell? ⟨Bm, 0, none⟩ = some (.map (some b))) (hown : w.ownsMap Try.prog tU64 heldR b nn D) :
    SeqStopsK F n Try.prog 41 #[.pointer (some ⟨Bm, 0, none⟩)] (fun x : Int => #[Value.int .u64 x]) KeepsWalks (fun ss => ss.Nodup ∧ ∀ x, x ∈ ss ↔ has D (.int .u64 x) = true) (fun _ => True) (Maps.size D) w := fun l J Jx W hW hJ _ hY h0 => by
  have hown' : W.ownsMap Try.prog tU64 heldR b nn D := by
    have hbl := hown.lt
    obtain ⟨es, clock, hb, Ft, hs, hD⟩ := hown
    exact ⟨es, clock, (hW.block b hbl).trans hb, Ft, hs, hD⟩
  exact keys_seq F n h1 hro hn l Bm b nn D J Jx hY W hJ ((hW.cell (p := ⟨Bm, 0, none⟩) hBm).trans hm) hown' h0

set_option maxHeartbeats 1000000 in
theorem keys_call (F : Fence) (n : Nat) (h : F.fn 26) (hro : F.round = none) (mb : Option Nat) (w : World) :
    CallsIn F n Try.prog 26 #[.map mb] w fun e w' => e = .returned (.func (.func 41) #[] #[.pointer (some ⟨w.heap.size, 0, none⟩)]) ∧ w' = w.alloc (.cells #[.map mb] 64) := by
  refine callsIn_of_wp Try.func26 rfl h ?_ hro
  simp only [Try.ntmps26, List.size_toArray, List.length_cons, List.length_nil, Nat.reduceAdd, Nat.reduceSub, Array.replicate_succ, Array.replicate_zero, List.push_toArray, List.append_toArray, List.nil_append, List.cons_append]
  gi_wp2
  go_ret
  exact ⟨rfl, rfl⟩

end Go.Proofs.Ytmfdhcnnhlchbaa

namespace Go.Proofs.Ytmfdhcnnhlchbaa
open Go.RowKit Go.Maps Go.Sort Go.Shelf

attribute [local go_sem] Oper.semAt_some

set_option maxRecDepth 100000 in
set_option maxHeartbeats 2000000 in
/-- slices.AppendSeq(nil, seq). -/
theorem appendSeq_in (F : Fence) (n : Nat) (h0 : F.fn 55) (hro : F.round = none) (hn : 2 ≤ n) {g : Nat} {lb : Array Value} (hg : F.fn g) (eg : ∀ args w, (callFunc g args).run Try.prog w = .ok (.enter g args) w) {S Sp : List Int → Prop} {N : Nat} (hlen : N ≤ maxLen) (hbytes : N * 8 ≤ 140737488355328) (w : World)
    (hseq : SeqStopsK F (n - 1) Try.prog g lb (fun x : Int => #[Value.int .u64 x]) KeepsWalks S Sp N w) :
    CallsIn F n Try.prog 55 #[.slice none 0 0, .func (.func g) #[] lb] w fun e W' => ∃ v ss, e = .returned v ∧ S ss ∧ W'.ownsRow w.heap.size tU64 1 v ss.length (ss.map (Value.int .u64)) ∧ (v = .slice none 0 0 ↔ ss = []) ∧ Below w.heap.size w W' := by
  have h1 : 1 ≤ n := by omega
  obtain ⟨i0, hi, hz0, hz1, hz2⟩ := info_parts infoU64
  refine callsIn_of_wp_marks Try.func55 rfl h0 ?_ hro
  simp only [Try.ntmps55, List.size_toArray, List.length_cons, List.length_nil, Nat.reduceAdd, Nat.reduceSub, Array.replicate_succ, Array.replicate_zero, List.push_toArray, List.append_toArray, List.nil_append, List.cons_append]
  gi_wp2
  have bO := Boxed.new w 47 (.slice none 0 0)
  have hB0 : Below w.heap.size w (w.alloc (.cells #[.slice none 0 0] 47)) := (Below.refl _ w).alloc (Nat.le_refl _) _
  refine wpIn_rangeFunc_ownG hro h1 (gf := g) (lb := lb) rfl hg eg hseq walksK_t walksK_b hB0 (fun _ => rfl)
    (fun pre W => (∃ v, Boxed W w.heap.size 47 v ∧ W.ownsRow w.heap.size tU64 1 v pre.length (pre.map (Value.int .u64)) ∧ (v = .slice none 0 0 ↔ pre = [])) ∧ Below w.heap.size w W)
    (fun _ _ _ => False)
    (OwnFrom.and (Own.from (holdsRow_own w.heap.size w.heap.size 47 tU64 1 (fun pre : List Int => pre.length) (fun pre => pre.map (Value.int .u64)) (fun pre v => v = .slice none 0 0 ↔ pre = [])) _) (ownFrom_below (Nat.le_refl _) (by simp)))
    (fun _ _ _ _ _ hs _ _ => hs)
    ⟨⟨_, bO, World.ownsRow_nil _ _ _ _, by simp⟩, hB0⟩
    (fun x => { tmps := #[.slice none 0 0, .func (.func g) #[] lb, .pointer (some ⟨w.heap.size, 0, none⟩), undef, .slice none 0 0, Value.int .u64 x, .func (.func g) #[] lb, Value.int .u64 x, undef, undef, undef, undef, undef], defers := [] }) ?assign ?body ?done ?stop
  case assign =>
    intro l x W K hK
    gi_wp2
    exact hK
  case body =>
    rintro l pre x W ⟨⟨v, hv, hrow, hnil⟩, hB⟩ hlt
    have hc := hv.cell
    gi_wp2_with (gi_at_builtin; refine wpListIn_append_own _ rfl _ _ 47 rfl w.heap.size 28 i0 (.int .u64 0) 1 8 Try.underlying47 hi hz0 hz1 hz2 rfl (by decide) _ _ _ rfl (hrow.alloc _) ⟨W.heap.size, 0, none⟩ 1 1 [.int .u64 x] rfl rfl (cell_one_new _ _ _) (by simp [Value.oneCell']) (by omega) (by omega) (by have := hB.size; simp; omega) ?_; intro v' w1 hown' hgrow _; obtain ⟨g', cap', rfl⟩ := ownsRow_succ hown'; obtain ⟨hv1, hv2, hr2, hk2, hb2⟩ := hv.appended (by decide) hrow hB.size (Nat.le_refl _) hown' hgrow; have hc1 := hv1.cell; have hf1 := hv1.frozen)
    exact ⟨hk2.from _, KeepsOthers.walks hk2, ⟨_, hv2, by simpa using hr2, by simp⟩, hB.trans hb2⟩
  case done =>
    rintro D ys W hD hS ⟨⟨v, hv, hrow, hnil⟩, hB⟩ hK
    have hc := hv.cell
    gi_wp2
    refine ⟨by simp, .inl ⟨_, _, rfl, run_takeDeferred hK, ?_⟩⟩
    exact ⟨_, results_tmp rfl _ _ _, v, ys, rfl, hS, ownsRow_putObj hrow _ hK rfl, hnil, hB.trans (belowK_b (w := w) (Nat.le_refl _) W D _ _ (by simp at hD; omega) hK rfl rfl)⟩
  case stop =>
    rintro D c pre W _ _ h _
    exact h.elim

set_option maxHeartbeats 1000000 in
theorem collect_in (F : Fence) (n : Nat) (h0 : F.fn 39) (h2 : F.fn 55) (hro : F.round = none) (hn : 3 ≤ n) {g : Nat} {lb : Array Value} (hg : F.fn g) (eg : ∀ args w, (callFunc g args).run Try.prog w = .ok (.enter g args) w) {S Sp : List Int → Prop} {N : Nat} (hlen : N ≤ maxLen) (hbytes : N * 8 ≤ 140737488355328) (w : World)
    (hseq : SeqStopsK F (n - 1 - 1) Try.prog g lb (fun x : Int => #[Value.int .u64 x]) KeepsWalks S Sp N w) :
    CallsIn F n Try.prog 39 #[.func (.func g) #[] lb] w fun e W' => ∃ v ss, e = .returned v ∧ S ss ∧ W'.ownsRow w.heap.size tU64 1 v ss.length (ss.map (Value.int .u64)) ∧ (v = .slice none 0 0 ↔ ss = []) ∧ Below w.heap.size w W' := by
  have h1 : 1 ≤ n := by omega
  refine callsIn_of_wp Try.func39 rfl h0 ?_ hro
  simp only [Try.ntmps39, List.size_toArray, List.length_cons, List.length_nil, Nat.reduceAdd, Nat.reduceSub, Array.replicate_succ, Array.replicate_zero, List.push_toArray, List.append_toArray, List.nil_append, List.cons_append]
  gi_wp2_with (gi_at_call 55; refine (appendSeq_in F (n - 1) h2 hro (by omega) hg eg hlen hbytes _ hseq).mono ?_; rintro e w' ⟨v, ss, rfl, hS, hrow, hnil, hb⟩)
  go_ret
  exact ⟨v, ss, rfl, hS, hrow, hnil, hb⟩

end Go.Proofs.Ytmfdhcnnhlchbaa

namespace Go.Proofs.Ytmfdhcnnhlchbaa
open Go.RowKit Go.Maps Go.Sort Go.Shelf

set_option maxRecDepth 100000 in
set_option maxHeartbeats 1000000 in
theorem len64_zero (w : World) : Calls Try.prog 71 #[.int .u64 0] w fun e w' => e = .returned (.int .i64 0) ∧ w' = w := by
  go_enter Try.func71, Try.ntmps71
  go_wp2_with fail
  go_ret
  exact ⟨by kernel_rfl, rfl⟩

set_option maxRecDepth 100000 in
theorem len_zero (w : World) : Calls Try.prog 57 #[.int .u64 0] w fun e w' => e = .returned (.int .i64 0) ∧ w' = w := by
  go_enter Try.func57, Try.ntmps57
  go_wp2_with fail
  refine (len64_zero w).mono ?_
  rintro e w1 ⟨rfl, rfl⟩
  go_wp2_with fail
  go_ret
  exact ⟨rfl, rfl⟩

set_option maxRecDepth 100000 in
theorem insertion_nil (w : World) : Calls Try.prog 61 #[.slice none 0 0, .int .i64 0, .int .i64 0] w fun e w' => e = .returned (.tuple #[]) ∧ w' = w := by
  have hwz : IntKind.i64.wrap 1 = 1 := by decide
  go_enter Try.func61, Try.ntmps61
  go_wp2_with fail
  refine wp_loop_rounds 1 ?_
  rw [rounds_succ]
  go_wp2_with fail
  go_end0
  exact ⟨rfl, rfl⟩

set_option maxRecDepth 100000 in
set_option maxHeartbeats 1000000 in
theorem pdq_nil (w : World) : Calls Try.prog 56 #[.slice none 0 0, .int .i64 0, .int .i64 0, .int .i64 0] w fun e w' => e = .returned (.tuple #[]) ∧ w' = w := by
  have hwz : IntKind.i64.wrap 0 = 0 := by decide
  go_enter Try.func56, Try.ntmps56
  go_wp2_with fail
  refine wp_loop_rounds 1 ?_
  rw [rounds_succ]
  go_wp2_with fail
  refine (insertion_nil w).mono ?_
  rintro e w1 ⟨rfl, rfl⟩
  go_wp2_with fail
  refine bodyPost_ret (results_none rfl _ _ _) rfl ?_
  exact ⟨rfl, rfl⟩

set_option maxRecDepth 100000 in
theorem sort_nil (w : World) : Calls Try.prog 40 #[.slice none 0 0] w fun e w' => e = .returned (.tuple #[]) ∧ w' = w := by
  have hwz : IntKind.u64.wrap 0 = 0 := by decide
  go_enter Try.func40, Try.ntmps40
  go_wp2_with fail
  refine (len_zero w).mono ?_
  rintro e w1 ⟨rfl, rfl⟩
  go_wp2_with fail
  refine (pdq_nil w1).mono ?_
  rintro e w1 ⟨rfl, rfl⟩
  go_wp2_with fail
  go_end0
  exact ⟨rfl, rfl⟩

end Go.Proofs.Ytmfdhcnnhlchbaa

namespace Go.Proofs.Ytmfdhcnnhlchbaa
open Go.RowKit Go.Maps Go.Sort Go.Shelf

theorem empty_keys {w : World} {b : Nat} (h : w.heap[b]? = some (.map #[] 0)) : w.ownsMap Try.prog tU64 heldR b 0 (.map []) := ⟨#[], 0, h, ⟨by simp, Go.MapKept.stamped_empty 0, by simp⟩, Nat.le_refl _, rfl⟩

theorem below_grown {w w' : World} (h : Below w.heap.size w w') : w.grownBy w' none := ⟨h.os, h.tape, h.output, h.size, fun k hk _ => h.block k hk⟩

set_option maxRecDepth 100000 in
set_option maxHeartbeats 1000000 in
/-- slices.Sorted of the keys of a map, as the sort goes: S what the iterator gives, N how many at most. -/
theorem sorted_none {g : Nat} {lb : Array Value} (eg : ∀ args w, (callFunc g args).run Try.prog w = .ok (.enter g args) w) {S Sp : List Int → Prop} {N : Nat} (hlen : N ≤ maxLen) (hbytes : N * 8 ≤ 140737488355328) (w : World)
    (hseq : SeqStopsK Fence.wide 2 Try.prog g lb (fun x : Int => #[Value.int .u64 x]) KeepsWalks S Sp N w) (hS : ∀ ss, S ss → ss = []) :
    Calls Try.prog 25 #[.func (.func g) #[] lb] w fun e w' => e = .returned (.slice none 0 0) ∧ w.grownBy w' none := by
  have hc : Calls Try.prog 39 #[.func (.func g) #[] lb] w fun e w' => e = .returned (.slice none 0 0) ∧ w.grownBy w' none := by
    refine (callsIn_wide (n := 4)).1 ((collect_in Fence.wide 4 trivial trivial rfl (by omega) trivial eg hlen hbytes w hseq).mono ?_)
    rintro e w' ⟨v, ss, rfl, h1, hrow, hnil, hb⟩
    exact ⟨by rw [hnil.2 (hS ss h1)], below_grown hb⟩
  go_enter Try.func25, Try.ntmps25
  go_wp2_with fail
  refine hc.mono ?_
  rintro e w1 ⟨rfl, g1⟩
  go_wp2_with fail
  refine (sort_nil w1).mono ?_
  rintro e w2 ⟨rfl, rfl⟩
  go_wp2_with fail
  go_ret
  exact ⟨rfl, g1⟩

end Go.Proofs.Ytmfdhcnnhlchbaa

namespace Go.Proofs.Ytmfdhcnnhlchbaa
open Go.RowKit Go.Maps

theorem map_ne_blk {α : Type} {enc : α → Value} {P : Program} {kt : TypeId} {w : World} {b n x : Nat} {f : α → Option Value} {c : Array Value} {t : TypeId} {z : Nat × Nat} (h : MapIs P kt enc w b f n) (hx : w.heap[x]? = some (.cells c t z)) : b ≠ x := by
  obtain ⟨es, clock, hb⟩ := h.isMap
  intro e
  rw [e, hx] at hb
  cases hb

theorem map_ne_row {α : Type} {enc : α → Value} {P : Program} {kt : TypeId} {w : World} {b m n e size : Nat} {f : α → Option Value} {v : Value} {xs : List Value} (h : MapIs P kt enc w b f m) (hr : w.ownsRow 0 e size v n xs) : some b ≠ v.ownBlock := by
  rcases hr.2 with ⟨rfl, _⟩ | ⟨g, cap, cur, rfl, _, hg, _⟩
  · simp [Value.ownBlock]
  · intro e1
    simp [Value.ownBlock] at e1
    exact map_ne_blk h hg e1

/-- A chain's new state, put together. -/
theorem dev_build {lab : Nat → Nat} {l : Nat} {w w' : World} {x : Nat} {pre post : List Value} {S S' : Ch} {K K' : Hd} {a a' : DAt} {B B' : Nat} (h : DevCh lab l w x pre post S K a B) (hl : l ≠ 0)
    (hos : w'.os = w.os) (htape : w'.tape = w.tape) (hout : w'.output = w.output) (hsz : w.heap.size ≤ w'.heap.size) (hkeep : ∀ k, k < w.heap.size → lab k ≠ l → k ≠ x → w'.heap[k]? = w.heap[k]?)
    (hB : w'.heap[x]? = some (.cells (pre ++ dchCells S' K' a' ++ post).toArray tBr (0, 0)))
    (hm : a'.bp = a.bp ∧ a'.bf = a.bf ∧ a'.kp = a.kp ∧ a'.ka = a.ka)
    (pend : MapIs Try.prog tU64 encU w' a'.bp (pkF S'.hd.packets) S'.hd.packets.length) (fund : MapIs Try.prog tHold encH w' a'.bf a'.ff a'.nf) (kpk : MapIs Try.prog tU64 encU w' a'.kp (pkF K'.packets) K'.packets.length) (kan : MapIs Try.prog tU64 encU w' a'.ka (ansF K'.answers) K'.answers.length)
    (sent : w'.ownsRow 0 tPk 7 a'.vs a'.sent.length (a'.sent.flatMap Pk.cells)) (lsent : ∀ k, a'.vs.ownBlock = some k → k < w.heap.size → lab k = l)
    (gone : w'.ownsRow 0 tU64 1 a'.vg a'.gone.length (a'.gone.map encU)) (lgone : ∀ k, a'.vg.ownBlock = some k → k < w.heap.size → lab k = l)
    (ans : w'.ownsRow 0 tAnsw 1 a'.va a'.ans.length (a'.ans.map ansV)) (lans : ∀ k, a'.va.ownBlock = some k → k < w.heap.size → lab k = l)
    (heads : w'.ownsRow 0 tHeader 9 a'.vh a'.hs.length (a'.hs.flatMap HdN.cells)) (lheads : ∀ k, a'.vh.ownBlock = some k → k < w.heap.size → lab k = l)
    (each : ∀ y ∈ a'.hs, y ∈ a.hs ∨ ((w'.ownsRow 0 tPk 7 y.vs y.sent.length (y.sent.flatMap Pk.cells) ∧ ∀ k, y.vs.ownBlock = some k → w.heap.size ≤ k ∧ some k ≠ a'.vs.ownBlock) ∧ (w'.ownsRow 0 tU64 1 y.vg y.gone.length (y.gone.map encU) ∧ ∀ k, y.vg.ownBlock = some k → w.heap.size ≤ k ∧ some k ≠ a'.vg.ownBlock) ∧
      (w'.ownsRow 0 tAnsw 1 y.va y.ans.length (y.ans.map ansV) ∧ ∀ k, y.va.ownBlock = some k → w.heap.size ≤ k ∧ some k ≠ a'.va.ownBlock)))
    (hsS : a'.hs.map HdN.hd = S'.heads) (fok : FundsOk a'.ff S') (good : GoodCh S' a' B') (goodK : GoodHd K' B') : DevTo lab l w x pre post S' K' B' w' := by
  have hxl := blk_lt h.blk
  obtain ⟨m1, m2, m3, m4⟩ := h.lmap
  obtain ⟨n1, n2, n3, n4⟩ := hm
  have lab_ok : ∀ (v : Value), (v = a'.vs ∨ v = a'.vg ∨ v = a'.va ∨ v = a'.vh) → (∀ k, v.ownBlock = some k → k < w.heap.size → lab k = l) →
      labelled (fun k => if k < w.heap.size then lab k else if some k = a'.vs.ownBlock ∨ some k = a'.vg.ownBlock ∨ some k = a'.va.ownBlock ∨ some k = a'.vh.ownBlock then l else 0) v l := by
    intro v hv hlv k e
    by_cases hk : k < w.heap.size
    · simp only [hk, if_true]; exact hlv k e hk
    · simp only [hk, if_false]
      rw [if_pos]
      rcases hv with rfl | rfl | rfl | rfl
      · exact .inl e.symm
      · exact .inr (.inl e.symm)
      · exact .inr (.inr (.inl e.symm))
      · exact .inr (.inr (.inr e.symm))
  refine ⟨fun k => if k < w.heap.size then lab k else if some k = a'.vs.ownBlock ∨ some k = a'.vg.ownBlock ∨ some k = a'.va.ownBlock ∨ some k = a'.vh.ownBlock then l else 0, a',
    ⟨hB, ?_, pend, fund, kpk, kan, ?_, ?_, sent, lab_ok _ (.inl rfl) lsent, gone, lab_ok _ (.inr (.inl rfl)) lgone, ans, lab_ok _ (.inr (.inr (.inl rfl))) lans, heads, lab_ok _ (.inr (.inr (.inr rfl))) lheads, ?_, hsS, fok, good, goodK⟩, ⟨hos, htape, hout, hsz, ?_, hkeep, ?_⟩⟩
  · simp only [hxl, if_true]; exact h.lx
  · rw [n1, n2, n3, n4]
    simp only [h.pend.lt, h.fund.lt, h.kpk.lt, h.kan.lt, if_true]
    exact ⟨m1, m2, m3, m4⟩
  · rw [n1, n2, n3, n4]; exact h.apart
  · intro y hy
    rcases each y hy with e | ⟨⟨a1, a2⟩, ⟨b1, b2⟩, c1, c2⟩
    · exact (h.each y e).keep (fun k hk e0 => hkeep k hk (by rw [e0]; exact fun e1 => hl e1.symm) (fun e1 => h.lx.2 (by rw [← e1]; exact e0))) (fun k hk => by simp [hk])
    · refine ⟨⟨a1, fun k e => ?_⟩, ⟨b1, fun k e => ?_⟩, c1, fun k e => ?_⟩
      · have hk : ¬ k < w.heap.size := by have := (a2 k e).1; omega
        simp only [hk, if_false]
        rw [if_neg]
        rintro (e1 | e1 | e1 | e1)
        · exact (a2 k e).2 e1
        · exact row_apart a1 gone (by decide) k e e1
        · exact row_apart a1 ans (by decide) k e e1
        · exact row_apart a1 heads (by decide) k e e1
      · have hk : ¬ k < w.heap.size := by have := (b2 k e).1; omega
        simp only [hk, if_false]
        rw [if_neg]
        rintro (e1 | e1 | e1 | e1)
        · exact row_apart b1 sent (by decide) k e e1
        · exact (b2 k e).2 e1
        · exact row_apart b1 ans (by decide) k e e1
        · exact row_apart b1 heads (by decide) k e e1
      · have hk : ¬ k < w.heap.size := by have := (c2 k e).1; omega
        simp only [hk, if_false]
        rw [if_neg]
        rintro (e1 | e1 | e1 | e1)
        · exact row_apart c1 sent (by decide) k e e1
        · exact row_apart c1 gone (by decide) k e e1
        · exact (c2 k e).2 e1
        · exact row_apart c1 heads (by decide) k e e1
  · intro k hk
    simp [hk]
  · intro k h1 h2
    have hk : ¬ k < w.heap.size := by omega
    simp only [hk, if_false]
    split
    · exact .inl rfl
    · exact .inr rfl

/-- Of what was there, at most block x, the map bm and the row r have turned. -/
structure Turned (x : Nat) (bm r : Option Nat) (w w' : World) : Prop where
  os : w'.os = w.os
  tape : w'.tape = w.tape
  output : w'.output = w.output
  size : w.heap.size ≤ w'.heap.size
  block : ∀ k, k < w.heap.size → k ≠ x → some k ≠ bm → some k ≠ r → w'.heap[k]? = w.heap[k]?

theorem Turned.refl (x : Nat) (bm r : Option Nat) (w : World) : Turned x bm r w w := ⟨rfl, rfl, rfl, Nat.le_refl _, fun _ _ _ _ _ => rfl⟩

theorem Turned.trans {x : Nat} {bm r bm' r' : Option Nat} {w w1 w2 : World} (h : Turned x bm r w w1) (g : Turned x bm' r' w1 w2) (hm : ∀ k, bm' = some k → bm = some k ∨ w.heap.size ≤ k) (hr : ∀ k, r' = some k → r = some k ∨ w.heap.size ≤ k) : Turned x bm r w w2 :=
  ⟨g.os.trans h.os, g.tape.trans h.tape, g.output.trans h.output, Nat.le_trans h.size g.size, fun k hk h1 h2 h3 =>
    (g.block k (Nat.lt_of_lt_of_le hk h.size) h1 (fun e => (hm k e.symm).elim (fun e1 => h2 e1.symm) (fun e1 => by omega)) (fun e => (hr k e.symm).elim (fun e1 => h3 e1.symm) (fun e1 => by omega))).trans (h.block k hk h1 h2 h3)⟩

theorem turned_x {x : Nat} {bm r : Option Nat} {w w' : World} (g : w.grownBy w' (some x)) : Turned x bm r w w' := ⟨g.os, g.tape, g.output, g.size, fun k hk h1 _ _ => g.block k hk (by simpa using h1)⟩
theorem turned_r {x : Nat} {bm r : Option Nat} {w w' : World} (g : w.grownBy w' r) : Turned x bm r w w' := ⟨g.os, g.tape, g.output, g.size, fun k hk _ _ h3 => g.block k hk h3⟩
theorem turned_m {x b : Nat} {r : Option Nat} {w w' : World} (g : w.grownBy w' (some b)) : Turned x (some b) r w w' := ⟨g.os, g.tape, g.output, g.size, fun k hk _ h2 _ => g.block k hk h2⟩
theorem turned_n {x : Nat} {bm r : Option Nat} {w w' : World} (g : w.grownBy w' none) : Turned x bm r w w' := ⟨g.os, g.tape, g.output, g.size, fun k hk _ _ _ => g.block k hk (by simp)⟩

theorem turned_drew {x : Nat} {bm r : Option Nat} {w w' : World} (t : Turned x bm r w.drew w') : Turned x bm r w w' := ⟨t.os, t.tape, t.output, t.size, t.block⟩

/-- An append in a drawn region, then the cell. -/
theorem Turned.app {x : Nat} {bm r : Option Nat} {w w3 w4 : World} {X : Obj} {ad : Addr} {v : Value} (t : Turned x bm r w w3) (g : (w3.alloc X).drew.grownBy w4 r) (hx : ad.block = x) : Turned x bm r w (w4.setCell ad v) := by
  refine ⟨g.os.trans t.os, g.tape.trans t.tape, g.output.trans t.output, ?_, fun k hk h1 h2 h3 => ?_⟩
  · have := g.size; have := t.size; rw [setCell_size]; simp at *; omega
  · have := t.size
    rw [setCell_other _ _ _ (by rw [hx]; exact h1), g.block k (by simp; omega) h3]
    exact (heap_alloc_old w3 X (by omega)).trans (t.block k hk h1 h2 h3)

/-- A map stays under such an append. -/
theorem map_app {α : Type} {enc : α → Value} {P : Program} {kt : TypeId} {b n : Nat} {r : Option Nat} {w3 w4 : World} {f : α → Option Value} {X : Obj} {ad : Addr} {v : Value} (hm : MapIs P kt enc w3 b f n) (g : (w3.alloc X).drew.grownBy w4 r) (h1 : b ≠ ad.block) (h2 : some b ≠ r) : MapIs P kt enc (w4.setCell ad v) b f n := by
  refine hm.keep ?_
  have := hm.lt
  rw [setCell_other _ _ _ h1, g.block b (by simp; omega) h2]
  exact heap_alloc_old w3 X this

theorem Turned.row {x : Nat} {bm r : Option Nat} {w w' : World} {c : Array Value} {tb e size n : Nat} {z : Nat × Nat} {v : Value} {xs : List Value} (t : Turned x bm r w w') (hx : w.heap[x]? = some (.cells c tb z)) (hr : w.ownsRow 0 e size v n xs) (hne : tb ≠ e)
    (hbm : bm ≠ none → bm ≠ v.ownBlock) (hrow : ∀ k, v.ownBlock = some k → some k ≠ r) : w'.ownsRow 0 e size v n xs :=
  owns_keep hr fun k e1 => t.block k (owns_lt hr e1) (fun e2 => owns_ne hx hr hne (by rw [e1, e2])) (fun e2 => hbm (by rw [← e2]; simp) (by rw [e1, e2])) (hrow k e1)

theorem Turned.map {α : Type} {enc : α → Value} {P : Program} {kt : TypeId} {x b n : Nat} {bm r : Option Nat} {w w' : World} {f : α → Option Value} {c : Array Value} {tb : TypeId} {z : Nat × Nat} (t : Turned x bm r w w') (hx : w.heap[x]? = some (.cells c tb z)) (hm : MapIs P kt enc w b f n)
    (hne : some b ≠ bm) (hr : some b ≠ r) : MapIs P kt enc w' b f n :=
  hm.keep (t.block b hm.lt (map_ne_blk hm hx) hne hr)

theorem Turned.keep {lab : Nat → Nat} {l x : Nat} {bm r : Option Nat} {w w' : World} (t : Turned x bm r w w') (hm : ∀ k, bm = some k → lab k = l) (hr : ∀ k, r = some k → lab k = l) : ∀ k, k < w.heap.size → lab k ≠ l → k ≠ x → w'.heap[k]? = w.heap[k]? :=
  fun k hk h1 h2 => t.block k hk h2 (fun e => h1 (hm k e.symm)) (fun e => h1 (hr k e.symm))

theorem lab_fresh {lab : Nat → Nat} {l : Nat} {w w0 : World} {v v' : Value} (h : labelled lab v l) (hf : fresh w0 v v') (hs : w.heap.size ≤ w0.heap.size) : ∀ k, v'.ownBlock = some k → k < w.heap.size → lab k = l := by
  intro k e hk
  rcases hf k e with e1 | e1
  · exact h k e1
  · omega

theorem app_keep {w3 w4 : World} {X O : Obj} {b : Nat} {row : Option Nat} (hB3 : w3.heap[b]? = some O) (hg : (w3.alloc X).drew.grownBy w4 row) (hne : some b ≠ row) : w4.heap[b]? = some O := by
  have hb := blk_lt hB3
  rw [hg.block b (by simp; omega) hne]
  exact (heap_alloc_old w3 X hb).trans hB3

theorem src_row {w : World} {t size : Nat} (cs : List Value) (hc : cs.length = size) : srcRow (w.alloc (.cells cs.toArray t)) size (.slice (some ⟨w.heap.size, 0, none⟩) 1 1) 1 cs := by
  refine ⟨by omega, .inr ⟨_, _, rfl, ?_⟩⟩
  intro j u hj
  rw [Addr.add_lit]
  rw [cell_of_row _ _ _ _ _ _ (heap_alloc_new w (.cells cs.toArray t))]
  simpa using hj

theorem find_none_of {l : List Pk} {n : Int} (h : ∀ p ∈ l, p.seq < n) : (l.find? fun p => p.seq == n) = none := by
  rw [List.find?_eq_none]
  intro p hp
  have := h p hp
  simp
  omega

theorem pkF_snoc {l : List Pk} {p : Pk} (h : ∀ r ∈ l, r.seq < p.seq) (k : Int) : pkF (l ++ [p]) k = putF (pkF l) p.seq p.agg k := by
  unfold pkF putF
  rw [List.find?_append]
  by_cases e : k = p.seq
  · subst e
    rw [find_none_of h]
    simp
  · rw [if_neg e]
    have : (p.seq == k) = false := by simp; exact fun e1 => e e1.symm
    simp [this]

theorem delF_putF {f : Int → Option Value} {k j : Int} {v : Value} (h : k ≠ j) : delF (putF f k v) j = putF (delF f j) k v := by
  funext i
  simp only [delF, putF]
  by_cases e : i = j
  · subst e
    rw [if_pos rfl, if_neg (fun e1 => h e1.symm), if_pos rfl]
  · by_cases e1 : i = k
    · rw [if_neg e, if_pos e1, if_pos e1]
    · rw [if_neg e, if_neg e1, if_neg e1, if_neg e]

theorem gone_putF {k : Int} {v : Value} : ∀ (l : List Int) (f : Int → Option Value), (∀ j ∈ l, j ≠ k) → l.foldl delF (putF f k v) = putF (l.foldl delF f) k v
  | [], _, _ => rfl
  | j :: l, f, h => by
    simp only [List.foldl_cons]
    rw [delF_putF (fun e => h j (by simp) e.symm)]
    exact gone_putF l _ (fun i hi => h i (by simp [hi]))

theorem learnP_snoc {f : Int → Option Value} {sent : List Pk} {gone : List Int} {p : Pk} (h : ∀ j ∈ gone, j ≠ p.seq) : learnP f (sent ++ [p]) gone = putF (learnP f sent gone) p.seq p.agg := by
  unfold learnP
  rw [List.foldl_append]
  exact gone_putF gone _ h

end Go.Proofs.Ytmfdhcnnhlchbaa
