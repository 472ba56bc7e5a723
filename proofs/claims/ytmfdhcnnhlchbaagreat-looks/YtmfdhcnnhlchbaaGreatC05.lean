import Derived.Test.YtmfdhcnnhlchbaaGreatC01
import Derived.StillTail
import Derived.StillTactics
import Derived.Test.YtmfdhcnnhlchbaaGreatC04
import Derived.LoopN
namespace Go.Proofs.YtmfdhcnnhlchbaaGreat
open Go.RowKit

/-- A region that draws its order: the first n operations only read; all others wait for them. One walk of the first n in the text's order serves; what follows goes in whatever order is left. -/
def later (md : Region.Mode) (ops : Array Oper) (n : Nat) : Bool :=
  (List.range ops.size).all fun t => decide (t ≤ n) || (List.range t).any fun u => decide (n ≤ u) && Region.waitsFor md ops t u

def leads (md : Region.Mode) (ops : Array Oper) : Nat → Nat → Array Bool → Bool
  | 0, k, listed => (Region.ready md ops listed).all fun j => decide (k ≤ j)
  | f + 1, k, listed => (Region.ready md ops listed).contains k && Region.free md ops listed k && leads md ops f (k + 1) (listed.setIfInBounds k true)

def filled (ops : Array Oper) : Nat → Nat → Array Bool → Array Bool
  | 0, _, listed => listed
  | f + 1, k, listed => filled ops f (k + 1) (listed.setIfInBounds k true)

def headB (md : Region.Mode) (ops : Array Oper) (n : Nat) : Bool :=
  Region.noSelect ops && decide (n < ops.size) && Region.sinkB md ops n && later md ops n && leads md ops n 0 (Array.replicate ops.size false)

section
variable {P : Program} {ops : Array Oper} {md : Region.Mode} {w : World}

theorem waits_for {n : Nat} {listed : Array Bool} (hs : Region.sinkB md ops n = true) (hl : later md ops n = true) (inv : HeadInv md ops n listed) (hn : n < ops.size)
    {i : Nat} (hi : i < n) (hun : listed.getD i true = false) : ∀ t ∈ Region.ready md ops listed, t < n := by
  have first : ∀ d i, n - i = d → i < n → listed.getD i true = false → n ∉ Region.ready md ops listed := by
    intro d
    induction d using Nat.strongRecOn with
    | _ d ih =>
      intro i hd hi hun hr
      obtain ⟨j, hj, hj2⟩ := List.any_eq_true.1 (List.all_eq_true.1 hs i (List.mem_range.2 hi))
      simp only [Bool.and_eq_true, decide_eq_true_eq] at hj2
      obtain ⟨oj, hoj, e, he, hb, hon⟩ := Region.waitsFor_spec hj2.2
      have hjn : j ≤ n := by have := List.mem_range.1 hj; omega
      have bad : listed.getD e.on false = true → False := by rw [hon, getD_both hun]; simp
      by_cases hjt : j = n
      · subst hjt
        obtain ⟨_, ot, hot, hall⟩ := mem_ready.1 hr
        obtain rfl : oj = ot := Option.some.inj (hoj.symm.trans hot)
        exact bad (hall e he hb)
      · cases hlj : listed.getD j false with
        | true => exact bad (inv.closed j oj hoj hlj e he hb)
        | false => exact ih (n - j) (by omega) j rfl (by omega) (getD_in (by rw [inv.size]; omega) hlj) hr
  intro t ht
  rcases Nat.lt_or_ge t n with h | h
  · exact h
  · exfalso
    obtain ⟨_, ot, hot, hall⟩ := mem_ready.1 ht
    have htl : t < ops.size := (Array.getElem?_eq_some_iff.1 hot).1
    have h1 := List.all_eq_true.1 hl t (List.mem_range.2 htl)
    simp only [Bool.or_eq_true, decide_eq_true_eq] at h1
    rcases h1 with h1 | h1
    · obtain rfl : t = n := by omega
      exact first _ i rfl hi hun ht
    · obtain ⟨u, hu, hu2⟩ := List.any_eq_true.1 h1
      simp only [Bool.and_eq_true, decide_eq_true_eq] at hu2
      obtain ⟨o', ho', e, he, hb, hon⟩ := Region.waitsFor_spec hu2.2
      obtain rfl : o' = ot := Option.some.inj (ho'.symm.trans hot)
      have h2 := hall e he hb
      have hut := List.mem_range.1 hu
      rw [hon, getD_both (inv.tail u hu2.1 (by omega))] at h2
      cases h2

theorem take_head {n i : Nat} {oi : Oper} {v : Value} {L : Array Bool → Act → Prop} (hi : ops[i]? = some oi) (hsel : Region.noSelect ops = true)
    (hs : Region.sinkB md ops n = true) (hl : later md ops n = true) (hn : n < ops.size) (hin : i < n) (hdone : ∀ listed a, L listed a → ∀ j ∈ Region.ready md ops listed, n ≤ j) :
    ∀ (f : Nat) (listed : Array Bool) (a : Act), HeadInv md ops n listed →
      (∀ j oj, ops[j]? = some oj → j ≠ i → listed.getD j true = false → (∀ e ∈ oj.after, Region.binds md e = true → e.on ≠ i) → oi.apart ops oj = true) →
      i ∈ Region.ready md ops listed → YieldsAt P ops w oi v a →
      wpAnyL P md ops w n L f (listed.setIfInBounds i true) (a.put oi.dst v) → wpAnyL P md ops w n L (f + 1) listed a := by
  have sel := Region.noSelect_spec hsel
  intro f
  induction f with
  | zero =>
    intro listed a inv _ hr hy H
    have head := waits_for hs hl inv hn hin (mem_ready.1 hr).1
    refine ⟨fun h => (by rw [h] at hr; cases hr), fun j hj => ⟨head j hj, ?_⟩⟩
    by_cases hji : j = i
    · subst hji; exact hy.stOp hi H
    · have h1 := hdone _ _ H j (ready_mono hj hji)
      have h2 := head j hj
      omega
  | succ f ih =>
    intro listed a inv hfree hr hy H
    have hun := (mem_ready.1 hr).1
    have head := waits_for hs hl inv hn hin hun
    refine ⟨fun h => (by rw [h] at hr; cases hr), fun j hj => ⟨head j hj, ?_⟩⟩
    by_cases hji : j = i
    · subst hji; exact hy.stOp hi H
    · obtain ⟨hjun, oj, hoj, hall⟩ := mem_ready.1 hj
      have hnot : ∀ e ∈ oj.after, Region.binds md e = true → e.on ≠ i := fun e he hb heq => by
        have h1 := hall e he hb
        rw [heq, getD_both hun] at h1
        cases h1
      have h2 := stOp_put hoj (hfree j oj hoj hji hjun hnot) (fun cs b => sel i oi cs b hi) (fun cs b => sel j oj cs b hoj) hy (H.2 j (ready_mono hj hji)).2
      refine stOp_mono (fun a' h3 => ih _ a' (inv.set hj (head j hj)) (fun k ok hk hki hu hno => hfree k ok hk hki ?_ hno) (ready_mono hr (Ne.symm hji)) h3.1 ?_) h2
      · by_cases hjk : j = k
        · subst hjk; exact hjun
        · rw [getD_set_ne true hjk] at hu; exact hu
      · rw [Array.setIfInBounds_comm _ _ hji]
        exact h3.2

theorem walk_head {n : Nat} {R : Act → Prop} (hsel : Region.noSelect ops = true) (hs : Region.sinkB md ops n = true) (hl : later md ops n = true) (hn : n < ops.size) (F : Array Bool) :
    ∀ (l : List Oper) (k : Nat) (listed : Array Bool) (a : Act), (∀ j, j < l.length → l[j]? = ops[k + j]?) → k + l.length = n → HeadInv md ops n listed →
    leads md ops l.length k listed = true → filled ops l.length k listed = F → wpStill P ops w R l a →
    wpAnyL P md ops w n (fun listed' a' => (listed' = F ∧ ∀ j ∈ Region.ready md ops F, n ≤ j) ∧ R a') l.length listed a
  | [], k, listed, a, _, hk, _, hB, hF, h => by
    obtain rfl : k = n := by simpa using hk
    obtain rfl : listed = F := hF
    refine ⟨⟨rfl, fun j hj => ?_⟩, h⟩
    have := List.all_eq_true.1 hB j hj
    simpa using this
  | o :: l, k, listed, a, hl', hk, inv, hB, hF, h => by
    have h0 : ops[k]? = some o := by simpa using (hl' 0 (by simp)).symm
    simp only [List.length_cons, leads, Bool.and_eq_true] at hB
    obtain ⟨⟨hr, hf⟩, hB'⟩ := hB
    have hkn : k < n := by simp only [List.length_cons] at hk; omega
    have hr' : k ∈ Region.ready md ops listed := by simpa using hr
    obtain ⟨v, hy, hK⟩ := yieldsAt_of_stOp (K := wpStill P ops w R l) h0 (by unfold stOp; simp only [h0]; exact h)
    exact take_head h0 hsel hs hl hn hkn (fun listed' a' hL => by obtain ⟨⟨rfl, h1⟩, _⟩ := hL; exact h1) l.length listed a inv (Region.free_spec h0 hf) hr' hy
      (walk_head hsel hs hl hn F l (k + 1) _ _ (fun j hj => by have := hl' (j + 1) (by simp; omega); simpa [Nat.add_assoc, Nat.add_comm 1 j] using this) (by simp only [List.length_cons] at hk; omega) (inv.set hr' hkn) hB' hF hK)

end

/-- THE LAW. -/
theorem wp_region_head {P : Program} {id : Nat} {Q : Exit → Act → World → Prop} {a : Act} {w : World} {l : List Oper} (n : Nat) (hm : P.follows .mixedOrders = true) (hB : headB .any l.toArray n = true)
    (F : Array Bool) (hF : filled l.toArray n 0 (Array.replicate l.toArray.size false) = F)
    (h : wpStill P l.toArray w.drew (fun a' => wpAny P .any l.toArray Q (l.length - n) F a' w.drew) (l.take n) a) : (Code.region id l.toArray true).wp P Q a w := by
  simp only [headB, Bool.and_eq_true, decide_eq_true_eq] at hB
  obtain ⟨⟨⟨⟨hsel, hn⟩, hs⟩, hl⟩, hlex⟩ := hB
  have hn' : n < l.length := by simpa using hn
  have htl : (l.take n).length = n := by simp; omega
  have inv0 : HeadInv .any l.toArray n (Array.replicate l.toArray.size false) :=
    ⟨by simp, fun j oj _ hx => (by rw [getD_replicate_false] at hx; cases hx), fun t _ ht => getD_in (by simpa using ht) (getD_replicate_false _ _)⟩
  have H := walk_head (md := .any) hsel hs hl hn F (l.take n) 0 _ a (fun j hj => by
    have hj' : j < n := by rw [htl] at hj; exact hj
    simp [hj']) (by simpa using htl) inv0 (by rw [htl]; exact hlex) (by rw [htl]; exact hF) h
  refine wp_region_any hm ?_
  have := wpAny_of_head (Q' := Q) (g := l.length - n) (fun listed a' hL => by obtain ⟨⟨rfl, _⟩, h2⟩ := hL; exact h2) _ _ _ H
  rw [htl, show n + (l.length - n) = l.toArray.size by simp; omega] at this
  exact this

/-- What is left of a region only reads: one walk in the text's order serves. -/
theorem wpAny_tail {P : Program} {Q : Exit → Act → World → Prop} {a : Act} {w : World} {l : List Oper} {F : Array Bool} {n : Nat} (k : Nat) (hn : (l.drop k).length = n) (hs : Region.noSelect l.toArray = true) (hB : Region.lexFrom .any l.toArray n k F = true)
    (h : wpStill P l.toArray w (fun a' => Q .normal a' w) (l.drop k) a) : wpAny P .any l.toArray Q n F a w := by
  subst hn
  exact wpAny_of_still (Q := fun a' => Q .normal a' w) (fun _ h => h) _ _ _ (wpAnyS_lex hs (l.drop k) k F a (fun j => by simp) hB h)

end Go.Proofs.YtmfdhcnnhlchbaaGreat

namespace Go.Proofs.YtmfdhcnnhlchbaaGreat
open Go.RowKit

theorem owns_some {w : World} {e size n c : Nat} {a : Option Addr} {xs : List Value} (h : w.ownsRow 0 e size (.slice a n c) n xs) (hn : 0 < n) : ∃ g, a = some ⟨g, 0, none⟩ ∧ n ≤ c ∧ c ≤ maxLen := by
  rcases h.2 with ⟨e1, e2⟩ | ⟨g, cap, cur, e1, _, _, h1, h2, _⟩
  · omega
  · simp at e1
    obtain ⟨rfl, rfl⟩ := e1
    exact ⟨g, rfl, h1, h2⟩

set_option maxRecDepth 100000 in
set_option maxHeartbeats 1600000 in
theorem mod_do0 {own : Nat → Nat} {o : Nat} {w : World} {bm b0 b1 : Nat} {m : Mod} {a0 a1 : At} {K : HdV} {k n : Int} {p : Pk} {hl : Nat} {r : Ch × Int × Int} (h : RefMod own o w bm b0 b1 m a0 a1) (ho : o ≠ 0)
    (hK : a1.hs[m.c0.known]? = some K) (hhl : hl ≤ a1.hs.length) (bh : a1.hs.length ≤ 1048576) (t0 : 0 ≤ m.taken) (t1 : m.taken ≤ 1048576)
    (hdo : ∀ (own1 : Nat → Nat) (w1 : World) (ah : Option Addr) (ch : Nat), RefCh own1 (o + 1) w1 b0 m.c0 a0 → HdOk own1 w1 K → Calls Tryz.prog 36 #[.pointer (some ⟨b0, 0, none⟩), stepAgg k n p, hdrAgg K, .slice ah hl ch] w1 fun e w' => Left own1 (o + 1) w1 b0 r e w') :
    Calls Tryz.prog 22 #[.pointer (some ⟨bm, 0, none⟩), .int .i64 0, stepAgg k n p, .int .i64 hl] w fun e w' => e = .returned (.tuple #[.int .u64 r.2.1, .int .i64 r.2.2]) ∧
      ModTo own o (fun l => l = o ∨ l = o + 1) w bm b0 b1 { c0 := r.1, c1 := m.c1, taken := if r.2.2 = 0 then m.taken + 1 else m.taken } w' := by
  have hkl : m.c0.known < a1.hs.length := (List.getElem?_eq_some_iff.1 hK).1
  obtain ⟨g, hg, hcap, hmax⟩ := owns_some h.c1.hd (by omega)
  obtain ⟨m0, m1, m2, mf⟩ := blk3 h.blk
  obtain ⟨c0, c1, c2, c3, c4, c5, c6, c7, c8, c9, c10, c11, c12, c13, c14, c15, c16, c17, hf⟩ := ch_cells h.c0.blk
  obtain ⟨d0, d1, d2, d3, d4, d5, d6, d7, d8, d9, d10, d11, d12, d13, d14, d15, d16, d17, df⟩ := ch_cells h.c1.blk
  have hrow := h.c1.hd
  simp only [At.vh, hg] at hrow
  rw [hg] at d16
  obtain ⟨k0, k1, k2, k3, k4, k5⟩ := hdr_cells hrow hK
  have hgl : g < w.heap.size := owns_lt hrow rfl
  have hbm := blk_lt h.blk
  have hb0 := blk_lt h.c0.blk
  have hb1 := blk_lt h.c1.blk
  have hhc : (hl : Int) ≤ (a1.ch : Int) := by omega
  have hhd : 0 < a1.ch := by omega
  have hk0 : (m.c0.known : Int) < (a1.hs.length : Int) := by omega
  clear c0 c1 c2 c3 c4 c5 c6 c7 c8 c9 c10 c11 c12 c13 c14 c15 c16 hf d0 d1 d2 d3 d4 d5 d6 d7 d8 d9 d10 d11 d12 d13 d14 d15 d17 df
  go_enter Tryz.func22, Tryz.ntmps22
  go_wp2_with fail
  obtain ⟨w1, hw1⟩ : ∃ w1 : World, w1 = w.alloc (.cells #[.int .i64 k, .int .u64 n, .int .u64 p.seq, .int .i64 p.src, .int .i64 p.dst, .int .i64 p.coin, .int .u64 p.amount, .int .u64 p.height, .int .u64 p.time] 30) := ⟨_, rfl⟩
  rw [← hw1]
  have g1 : w.grownBy w1 none := by rw [hw1]; exact World.grownBy_alloc _ _ _
  have hX1 : w1.heap[w.heap.size]? = some (.cells #[.int .i64 k, .int .u64 n, .int .u64 p.seq, .int .i64 p.src, .int .i64 p.dst, .int .i64 p.coin, .int .u64 p.amount, .int .u64 p.height, .int .u64 p.time] 30 (0, 0)) := by rw [hw1]; exact heap_alloc_new w _
  have st1 : StepS (fun l => l = o ∨ l = o + 1) own (relab own w) w w1.drew := (relab_step _ own w).trans (grown_stepS (grown_drew g1))
  have st0 : StepS (fun _ => False) own (relab own w) w w1.drew := (relab_step _ own w).trans (grown_stepS (grown_drew g1))
  have hR1 : RefCh (relab own w) (o + 1) w1.drew b0 m.c0 a0 := h.c0.keepS st0 (by simp) (by simp)
  have hK1 : HdOk (relab own w) w1.drew K := HdOk.keepS (h.c1.each K (List.mem_of_getElem? hK)) st0 (by simp)
  have hcell : ∀ q j v, q < w.heap.size → w.cell? ⟨q, j, none⟩ = some v → w1.cell? ⟨q, j, none⟩ = some v := fun q j v hq hv => (World.cell?_of_block (g1.block q hq (by simp))).trans hv
  replace m2 := hcell _ _ _ hbm m2
  replace c17 := hcell _ _ _ hb0 c17
  replace d16 := hcell _ _ _ hb1 d16
  replace k0 := hcell _ _ _ hgl k0
  replace k1 := hcell _ _ _ hgl k1
  replace k2 := hcell _ _ _ hgl k2
  replace k3 := hcell _ _ _ hgl k3
  replace k4 := hcell _ _ _ hgl k4
  replace k5 := hcell _ _ _ hgl k5
  obtain ⟨x0, x1, x2, x3, x4, x5, x6, x7, x8, xf⟩ := blk9 hX1
  clear m0 m1 mf hcell hw1
  have sz1 : w.heap.size < w1.heap.size := blk_lt hX1
  -- what lies apart from the chain stays behind its step
  have away : ∀ (own2 : Nat → Nat) (w2 : World) (q : Nat), Step (relab own w) own2 (o + 1) w1.drew w2 → q < w1.heap.size → relab own w q ≠ o + 1 → ∀ j, w2.cell? ⟨q, j, none⟩ = w1.cell? ⟨q, j, none⟩ := fun own2 w2 q hs hq hl j => World.cell?_of_block (w := w1) (hs.block q hq hl)
  have lg : relab own w g ≠ o + 1 := by rw [relab_old hgl, h.c1.lhd g (by simp [At.vh, hg, Value.ownBlock])]; omega
  have l1 : relab own w b1 ≠ o + 1 := by rw [relab_old hb1, h.c1.lb]; omega
  have lx : relab own w w.heap.size ≠ o + 1 := by rw [relab_new (Nat.le_refl _)]; omega
  refine wp_region_head 18 (by kernel_rfl) (by kernel_rfl) #[true, true, true, true, true, true, true, true, true, true, true, true, true, true, true, true, true, true, false, false, false, false, false, false] (by kernel_rfl) ?_
  simp only [List.take_succ_cons, List.take_zero]
  repeat still_step
  refine wpStill_nil ?_
  refine wpAny_ready (rs := [18]) (by kernel_rfl) (by simp) ?_
  refine AllReady.cons (o := _) rfl (fun K hK => ?_) AllReady.nil
  go_simp
  refine (hdo _ _ _ _ hR1 hK1).mono ?_
  rintro e w2 ⟨rfl, hS2⟩
  refine hK _ _ ?_
  clear hK K
  clear hdo hR1 hK1 x0 x1 x2 x3 x4 x5 x6 x7 x8 xf c17 d16 k0 k1 k2 k3 k4 k5
  refine wpAny_take (i := 19) (v := ?v19) rfl (by kernel_rfl) (by kernel_rfl) (by kernel_rfl) (fun _ _ _ h => h) (Or.inl ⟨by rfl, ?hy19⟩) ?rest19
  case hy19 =>
    intro w
    go_simp
    with_reducible rfl
  refine wpAny_take (i := 20) (v := ?v20) rfl (by kernel_rfl) (by kernel_rfl) (by kernel_rfl) (fun _ _ _ h => h) (Or.inl ⟨by rfl, ?hy20⟩) ?rest20
  case hy20 =>
    intro w
    go_simp
    with_reducible rfl
  refine wpAny_take (i := 21) (v := ?v21) rfl (by kernel_rfl) (by kernel_rfl) (by kernel_rfl) (fun _ _ _ h => h) (Or.inl ⟨by rfl, ?hy21⟩) ?rest21
  case hy21 =>
    intro w
    go_simp
    with_reducible rfl
  refine wpAny_take (i := 22) (v := ?v22) rfl (by kernel_rfl) (by kernel_rfl) (by kernel_rfl) (fun _ _ _ h => h) (Or.inl ⟨by rfl, ?hy22⟩) ?rest22
  case hy22 =>
    intro w
    go_simp
    with_reducible rfl
  refine wpAny_take (i := 23) (v := ?v23) rfl (by kernel_rfl) (by kernel_rfl) (by kernel_rfl) (fun _ _ _ h => h) (Or.inl ⟨by rfl, ?hy23⟩) ?rest23
  case hy23 =>
    intro w
    go_simp
    with_reducible rfl
  refine wpAny_done (by kernel_rfl) ?_ _
  obtain ⟨own2, a2, hR2, hS2⟩ := hS2
  have st2 := st1.trans (hS2.toS (fun l => l = o ∨ l = o + 1) (.inr rfl))
  have st3 : StepS (fun l => l = o + 1) own own2 w w2 := (st0.wider (by simp)).trans (hS2.toS _ rfl)
  have hM2 : RefMod own2 o w2 bm b0 b1 { m with c0 := r.1 } a2 a1 := by
    refine ⟨(st3.block bm hbm (by rw [h.lb]; omega)).trans h.blk, (st3.label bm hbm).trans h.lb, hR2, h.c1.keepS st3 (by omega) (by omega)⟩
  obtain ⟨n0, n1, n2, nf⟩ := blk3 hM2.blk
  change w2.cell? ⟨bm, 2, none⟩ = some (.int .i64 m.taken) at n2
  clear st0 st3 hS2 hR2 st1
  by_cases hr : r.2.2 = 0
  · go_wp2_with fail
    go_ret2
    exact ⟨rfl, mod_tick hM2 ho st2 (.inl rfl) (m.taken + 1)⟩
  · go_wp2_with fail
    go_ret2
    exact ⟨rfl, own2, a2, a1, hM2, st2⟩

end Go.Proofs.YtmfdhcnnhlchbaaGreat

namespace Go.Proofs.YtmfdhcnnhlchbaaGreat
open Go.RowKit

set_option maxRecDepth 100000 in
set_option maxHeartbeats 1600000 in
theorem mod_do1 {own : Nat → Nat} {o : Nat} {w : World} {bm b0 b1 : Nat} {m : Mod} {a0 a1 : At} {K : HdV} {k n : Int} {p : Pk} {hl : Nat} {r : Ch × Int × Int} (h : RefMod own o w bm b0 b1 m a0 a1) (ho : o ≠ 0)
    (hK : a0.hs[m.c1.known]? = some K) (hhl : hl ≤ a0.hs.length) (bh : a0.hs.length ≤ 1048576) (t0 : 0 ≤ m.taken) (t1 : m.taken ≤ 1048576)
    (hdo : ∀ (own1 : Nat → Nat) (w1 : World) (ah : Option Addr) (ch : Nat), RefCh own1 (o + 2) w1 b1 m.c1 a1 → HdOk own1 w1 K → Calls Tryz.prog 36 #[.pointer (some ⟨b1, 0, none⟩), stepAgg k n p, hdrAgg K, .slice ah hl ch] w1 fun e w' => Left own1 (o + 2) w1 b1 r e w') :
    Calls Tryz.prog 22 #[.pointer (some ⟨bm, 0, none⟩), .int .i64 1, stepAgg k n p, .int .i64 hl] w fun e w' => e = .returned (.tuple #[.int .u64 r.2.1, .int .i64 r.2.2]) ∧
      ModTo own o (fun l => l = o ∨ l = o + 2) w bm b0 b1 { c0 := m.c0, c1 := r.1, taken := if r.2.2 = 0 then m.taken + 1 else m.taken } w' := by
  have hkl : m.c1.known < a0.hs.length := (List.getElem?_eq_some_iff.1 hK).1
  obtain ⟨g, hg, hcap, hmax⟩ := owns_some h.c0.hd (by omega)
  obtain ⟨m0, m1, m2, mf⟩ := blk3 h.blk
  obtain ⟨c0, c1, c2, c3, c4, c5, c6, c7, c8, c9, c10, c11, c12, c13, c14, c15, c16, c17, hf⟩ := ch_cells h.c1.blk
  obtain ⟨d0, d1, d2, d3, d4, d5, d6, d7, d8, d9, d10, d11, d12, d13, d14, d15, d16, d17, df⟩ := ch_cells h.c0.blk
  have hrow := h.c0.hd
  simp only [At.vh, hg] at hrow
  rw [hg] at d16
  obtain ⟨k0, k1, k2, k3, k4, k5⟩ := hdr_cells hrow hK
  have hgl : g < w.heap.size := owns_lt hrow rfl
  have hbm := blk_lt h.blk
  have hb0 := blk_lt h.c1.blk
  have hb1 := blk_lt h.c0.blk
  have hhc : (hl : Int) ≤ (a0.ch : Int) := by omega
  have hhd : 0 < a0.ch := by omega
  have hk0 : (m.c1.known : Int) < (a0.hs.length : Int) := by omega
  clear c0 c1 c2 c3 c4 c5 c6 c7 c8 c9 c10 c11 c12 c13 c14 c15 c16 hf d0 d1 d2 d3 d4 d5 d6 d7 d8 d9 d10 d11 d12 d13 d14 d15 d17 df
  go_enter Tryz.func22, Tryz.ntmps22
  go_wp2_with fail
  obtain ⟨w1, hw1⟩ : ∃ w1 : World, w1 = w.alloc (.cells #[.int .i64 k, .int .u64 n, .int .u64 p.seq, .int .i64 p.src, .int .i64 p.dst, .int .i64 p.coin, .int .u64 p.amount, .int .u64 p.height, .int .u64 p.time] 30) := ⟨_, rfl⟩
  rw [← hw1]
  have g1 : w.grownBy w1 none := by rw [hw1]; exact World.grownBy_alloc _ _ _
  have hX1 : w1.heap[w.heap.size]? = some (.cells #[.int .i64 k, .int .u64 n, .int .u64 p.seq, .int .i64 p.src, .int .i64 p.dst, .int .i64 p.coin, .int .u64 p.amount, .int .u64 p.height, .int .u64 p.time] 30 (0, 0)) := by rw [hw1]; exact heap_alloc_new w _
  have st1 : StepS (fun l => l = o ∨ l = o + 2) own (relab own w) w w1.drew := (relab_step _ own w).trans (grown_stepS (grown_drew g1))
  have st0 : StepS (fun _ => False) own (relab own w) w w1.drew := (relab_step _ own w).trans (grown_stepS (grown_drew g1))
  have hR1 : RefCh (relab own w) (o + 2) w1.drew b1 m.c1 a1 := h.c1.keepS st0 (by simp) (by simp)
  have hK1 : HdOk (relab own w) w1.drew K := HdOk.keepS (h.c0.each K (List.mem_of_getElem? hK)) st0 (by simp)
  have hcell : ∀ q j v, q < w.heap.size → w.cell? ⟨q, j, none⟩ = some v → w1.cell? ⟨q, j, none⟩ = some v := fun q j v hq hv => (World.cell?_of_block (g1.block q hq (by simp))).trans hv
  replace m2 := hcell _ _ _ hbm m2
  replace c17 := hcell _ _ _ hb0 c17
  replace d16 := hcell _ _ _ hb1 d16
  replace k0 := hcell _ _ _ hgl k0
  replace k1 := hcell _ _ _ hgl k1
  replace k2 := hcell _ _ _ hgl k2
  replace k3 := hcell _ _ _ hgl k3
  replace k4 := hcell _ _ _ hgl k4
  replace k5 := hcell _ _ _ hgl k5
  obtain ⟨x0, x1, x2, x3, x4, x5, x6, x7, x8, xf⟩ := blk9 hX1
  clear m0 m1 mf hcell hw1
  have sz1 : w.heap.size < w1.heap.size := blk_lt hX1
  -- what lies apart from the chain stays behind its step
  have away : ∀ (own2 : Nat → Nat) (w2 : World) (q : Nat), Step (relab own w) own2 (o + 2) w1.drew w2 → q < w1.heap.size → relab own w q ≠ o + 2 → ∀ j, w2.cell? ⟨q, j, none⟩ = w1.cell? ⟨q, j, none⟩ := fun own2 w2 q hs hq hl j => World.cell?_of_block (w := w1) (hs.block q hq hl)
  have lg : relab own w g ≠ o + 2 := by rw [relab_old hgl, h.c0.lhd g (by simp [At.vh, hg, Value.ownBlock])]; omega
  have l1 : relab own w b0 ≠ o + 2 := by rw [relab_old hb1, h.c0.lb]; omega
  have lx : relab own w w.heap.size ≠ o + 2 := by rw [relab_new (Nat.le_refl _)]; omega
  refine wp_region_head 18 (by kernel_rfl) (by kernel_rfl) #[true, true, true, true, true, true, true, true, true, true, true, true, true, true, true, true, true, true, false, false, false, false, false, false] (by kernel_rfl) ?_
  simp only [List.take_succ_cons, List.take_zero]
  repeat still_step
  refine wpStill_nil ?_
  refine wpAny_ready (rs := [18]) (by kernel_rfl) (by simp) ?_
  refine AllReady.cons (o := _) rfl (fun K hK => ?_) AllReady.nil
  go_simp
  refine (hdo _ _ _ _ hR1 hK1).mono ?_
  rintro e w2 ⟨rfl, hS2⟩
  refine hK _ _ ?_
  clear hK K
  clear hdo hR1 hK1 x0 x1 x2 x3 x4 x5 x6 x7 x8 xf c17 d16 k0 k1 k2 k3 k4 k5
  refine wpAny_take (i := 19) (v := ?v19) rfl (by kernel_rfl) (by kernel_rfl) (by kernel_rfl) (fun _ _ _ h => h) (Or.inl ⟨by rfl, ?hy19⟩) ?rest19
  case hy19 =>
    intro w
    go_simp
    with_reducible rfl
  refine wpAny_take (i := 20) (v := ?v20) rfl (by kernel_rfl) (by kernel_rfl) (by kernel_rfl) (fun _ _ _ h => h) (Or.inl ⟨by rfl, ?hy20⟩) ?rest20
  case hy20 =>
    intro w
    go_simp
    with_reducible rfl
  refine wpAny_take (i := 21) (v := ?v21) rfl (by kernel_rfl) (by kernel_rfl) (by kernel_rfl) (fun _ _ _ h => h) (Or.inl ⟨by rfl, ?hy21⟩) ?rest21
  case hy21 =>
    intro w
    go_simp
    with_reducible rfl
  refine wpAny_take (i := 22) (v := ?v22) rfl (by kernel_rfl) (by kernel_rfl) (by kernel_rfl) (fun _ _ _ h => h) (Or.inl ⟨by rfl, ?hy22⟩) ?rest22
  case hy22 =>
    intro w
    go_simp
    with_reducible rfl
  refine wpAny_take (i := 23) (v := ?v23) rfl (by kernel_rfl) (by kernel_rfl) (by kernel_rfl) (fun _ _ _ h => h) (Or.inl ⟨by rfl, ?hy23⟩) ?rest23
  case hy23 =>
    intro w
    go_simp
    with_reducible rfl
  refine wpAny_done (by kernel_rfl) ?_ _
  obtain ⟨own2, a2, hR2, hS2⟩ := hS2
  have st2 := st1.trans (hS2.toS (fun l => l = o ∨ l = o + 2) (.inr rfl))
  have st3 : StepS (fun l => l = o + 2) own own2 w w2 := (st0.wider (by simp)).trans (hS2.toS _ rfl)
  have hM2 : RefMod own2 o w2 bm b0 b1 { m with c1 := r.1 } a0 a2 := by
    refine ⟨(st3.block bm hbm (by rw [h.lb]; omega)).trans h.blk, (st3.label bm hbm).trans h.lb, h.c0.keepS st3 (by omega) (by omega), hR2⟩
  obtain ⟨n0, n1, n2, nf⟩ := blk3 hM2.blk
  change w2.cell? ⟨bm, 2, none⟩ = some (.int .i64 m.taken) at n2
  clear st0 st3 hS2 hR2 st1
  by_cases hr : r.2.2 = 0
  · go_wp2_with fail
    go_ret2
    exact ⟨rfl, mod_tick hM2 ho st2 (.inl rfl) (m.taken + 1)⟩
  · go_wp2_with fail
    go_ret2
    exact ⟨rfl, own2, a0, a2, hM2, st2⟩

end Go.Proofs.YtmfdhcnnhlchbaaGreat

namespace Go.Proofs.YtmfdhcnnhlchbaaGreat
open Go.RowKit

def noAt : At := { ap := none, cp := 0, aa := none, ca := 0, ah := none, ch := 0, hs := [] }

theorem ref_raw {own : Nat → Nat} {o : Nat} {w : World} {b : Nat} {n coins : Int} (hb : w.heap[b]? = some (.cells (chCells (rawCh n coins) noAt).toArray tCh (0, 0))) (hl : own b = o) : RefCh own o w b (rawCh n coins) noAt := by
  refine ⟨hb, hl, World.ownsRow_nil _ _ _ _, ?_, World.ownsRow_nil _ _ _ _, ?_, World.ownsRow_nil _ _ _ _, ?_, rfl, ?_⟩
  · intro k e; simp [noAt, At.vp, Value.ownBlock] at e
  · intro k e; simp [noAt, At.va, Value.ownBlock] at e
  · intro k e; simp [noAt, At.vh, Value.ownBlock] at e
  · intro x hx; simp [noAt] at hx

/-- What a new model has left. -/
def NewTo (own : Nat → Nat) (o : Nat) (w : World) (bm : Nat) (m : Mod) (w' : World) : Prop := ∃ own' b0 b1 a0 a1, RefMod own' o w' bm b0 b1 m a0 a1 ∧ StepS (fun _ => False) own own' w w' ∧ w.heap.size ≤ bm

theorem rnew_done {own own2 own4 : Nat → Nat} {o : Nat} {w w2 w5 : World} {coins : Int} {a0 a1 : At} {own1 own3 : Nat → Nat} {w1 w4 : World} (ho : o ≠ 0) (hfresh : ∀ k, k < w.heap.size → own k ≠ o ∧ own k ≠ o + 1 ∧ own k ≠ o + 2)
    (g1 : w.grownBy w1 none) (l1 : ∀ k, k < w.heap.size → own1 k = own k) (lm : own1 w.heap.size = o) (hs1 : w.heap.size + 2 ≤ w1.heap.size)
    (hm : w1.heap[w.heap.size]? = some (.cells #[.pointer none, .pointer none, .int .i64 0] tMod (0, 0)))
    (h0 : RefCh own2 (o + 1) w2 (w.heap.size + 1) (newCh 0 coins) a0) (s2 : Step own1 own2 (o + 1) w1 w2)
    (hw4 : (w2.setCell ⟨w.heap.size, 0, none⟩ (.pointer (some ⟨w.heap.size + 1, 0, none⟩))).grownBy w4 none) (l3 : ∀ k, k < w2.heap.size → own3 k = own2 k)
    (h1 : RefCh own4 (o + 2) w5 w2.heap.size (newCh 1 coins) a1) (s5 : Step own3 own4 (o + 2) w4 w5) :
    NewTo own o w w.heap.size (newMod coins) (w5.setCell ⟨w.heap.size, 1, none⟩ (.pointer (some ⟨w2.heap.size, 0, none⟩))) := by
  have hs2 := s2.size
  have m2 : w2.heap[w.heap.size]? = some (.cells #[.pointer none, .pointer none, .int .i64 0] tMod (0, 0)) := (s2.block _ (by omega) (by rw [lm]; omega)).trans hm
  have lm2 : own2 w.heap.size = o := (s2.label _ (by omega)).trans lm
  have m3 := setCell_same m2 0 (.pointer (some ⟨w.heap.size + 1, 0, none⟩))
  have hs4 : w2.heap.size ≤ w4.heap.size := by have := hw4.size; rw [setCell_size] at this; exact this
  have m4 := (hw4.block w.heap.size (by rw [setCell_size]; omega) (by simp)).trans m3
  have lm4 : own3 w.heap.size = o := (l3 _ (by omega)).trans lm2
  have m5 := (s5.block _ (by omega) (by rw [lm4]; omega)).trans m4
  have lm5 : own4 w.heap.size = o := (s5.label _ (by omega)).trans lm4
  have hs5 := s5.size
  -- the first chain behind the second's making
  have q3 : StepS (fun l => l = o) own2 own3 w2 w4 := (set_stepS (T := fun l => l = o) (own := own2) lm2).trans (stepS_of_none hw4 (by intro k hk; rw [setCell_size] at hk; exact l3 k hk))
  have c0 := (h0.keepS q3 (by omega) (by omega)).keepS (s5.toS (fun l => l = o + 2) rfl) (by omega) (by omega)
  have q6 : StepS (fun l => l = o) own4 own4 w5 (w5.setCell ⟨w.heap.size, 1, none⟩ (.pointer (some ⟨w2.heap.size, 0, none⟩))) := set_stepS lm5
  refine ⟨own4, w.heap.size + 1, w2.heap.size, a0, a1, ⟨?_, lm5, c0.keepS q6 (by omega) (by omega), h1.keepS q6 (by omega) (by omega)⟩, ?_, Nat.le_refl _⟩
  · rw [setCell_same m5]
    rfl
  · refine ⟨(s5.os.trans hw4.os).trans (s2.os.trans g1.os), (s5.tape.trans hw4.tape).trans (s2.tape.trans g1.tape), (s5.output.trans hw4.output).trans (s2.output.trans g1.output), ?_, ?_, ?_⟩
    · rw [setCell_size]; have := g1.size; omega
    · intro k hk
      rw [s5.label k (by omega), l3 k (by omega), s2.label k (by have := g1.size; omega), l1 k hk]
    · intro k hk _
      have hf := hfresh k hk
      have e1 := l1 k hk
      have e2 := s2.label k (by have := g1.size; omega)
      have e3 := l3 k (by omega)
      rw [setCell_other _ _ _ (by simp; omega), s5.block k (by omega) (by omega), hw4.block k (by rw [setCell_size]; omega) (by simp), setCell_other _ _ _ (by simp; omega), s2.block k (by omega) (by omega), g1.block k hk (by simp)]

def lab3 (own : Nat → Nat) (N o : Nat) : Nat → Nat := fun k => if k < N then own k else if k = N then o else if k = N + 1 then o + 1 else 0
theorem lab3_old {own : Nat → Nat} {N o k : Nat} (h : k < N) : lab3 own N o k = own k := by simp [lab3, h]
theorem lab3_0 (own : Nat → Nat) (N o : Nat) : lab3 own N o N = o := by simp [lab3]
theorem lab3_1 (own : Nat → Nat) (N o : Nat) : lab3 own N o (N + 1) = o + 1 := by simp [lab3]; omega
def lab1 (own : Nat → Nat) (N o : Nat) : Nat → Nat := fun k => if k < N then own k else if k = N then o else 0
theorem lab1_old {own : Nat → Nat} {N o k : Nat} (h : k < N) : lab1 own N o k = own k := by simp [lab1, h]
theorem lab1_0 (own : Nat → Nat) (N o : Nat) : lab1 own N o N = o := by simp [lab1]

theorem size_ge_of_blk {w : World} {b : Nat} {x : Obj} (h : w.heap[b]? = some x) : b + 1 ≤ w.heap.size := blk_lt h

set_option maxRecDepth 100000 in
set_option maxHeartbeats 1600000 in
theorem rnew_ok {own : Nat → Nat} {w : World} {coins : Int} (o : Nat) (ho : o ≠ 0) (hfresh : ∀ k, k < w.heap.size → own k ≠ o ∧ own k ≠ o + 1 ∧ own k ≠ o + 2) (hc : ¬ (1152921504606846976 : Int) < coins) :
    Calls Tryz.prog 19 #[.int .u64 coins] w fun e w' => ∃ bm : Nat, e = .returned (.tuple #[.pointer (some ⟨bm, 0, none⟩), .bool true]) ∧ NewTo own o w bm (newMod coins) w' := by
  go_enter Tryz.func19, Tryz.ntmps19
  go_wp2_with fail
  refine wp_loop_rounds 3 ?_
  rw [rounds_succ]
  go_wp2_with fail
  refine wp_loop_rounds 4 ?_
  rw [rounds_succ]
  go_wp2_with fail
  rw [rounds_succ]
  go_wp2_with fail
  rw [rounds_succ]
  go_wp2_with fail
  rw [rounds_succ]
  go_wp2_with fail
  have hB0 : ∀ (X : Obj), (((w.alloc X).alloc (.cells (chCells (rawCh 0 coins) noAt).toArray tCh))).heap[w.heap.size + 1]? = some (.cells (chCells (rawCh 0 coins) noAt).toArray tCh (0, 0)) := by
    intro X
    have := heap_alloc_new (w.alloc X) (.cells (chCells (rawCh 0 coins) noAt).toArray tCh)
    rw [size_alloc'] at this
    exact this
  refine (commit_to (own := lab3 own w.heap.size o) (o := o + 1) (S := rawCh 0 coins) (a := noAt) (ref_raw (hB0 _) (lab3_1 _ _ _)) (by omega) (by simp [rawCh, newHd]) (by simp [rawCh, newHd]) (by simp [noAt])).mono ?_
  rintro e w2 ⟨rfl, own2, a0, h0, s2⟩
  have hs2 : w.heap.size + 2 ≤ w2.heap.size := by have := s2.size; simp at this; omega
  have m2 := s2.block w.heap.size (by simp; omega) (by rw [lab3_0]; omega)
  rw [heap_alloc_old _ _ (by simp), heap_alloc_new] at m2
  obtain ⟨y0, y1, y2, yf⟩ := blk3 m2
  go_wp2_with fail
  rw [rounds_succ]
  go_wp2_with fail
  refine wp_loop_rounds 4 ?_
  rw [rounds_succ]
  go_wp2_with fail
  rw [rounds_succ]
  go_wp2_with fail
  rw [rounds_succ]
  go_wp2_with fail
  rw [rounds_succ]
  go_wp2_with fail
  clear y0 y1 y2 yf
  obtain ⟨w3, hw3⟩ : ∃ w3 : World, w3 = w2.setCell ⟨w.heap.size, 0, none⟩ (.pointer (some ⟨w.heap.size + 1, 0, none⟩)) := ⟨_, rfl⟩
  have hz3 : w3.heap.size = w2.heap.size := by rw [hw3, setCell_size]
  rw [← hw3, ← hz3]
  have hB1 : (w3.alloc (.cells (chCells (rawCh 1 coins) noAt).toArray tCh)).heap[w3.heap.size]? = some (.cells (chCells (rawCh 1 coins) noAt).toArray tCh (0, 0)) := heap_alloc_new w3 _
  refine (commit_to (own := lab1 own2 w3.heap.size (o + 2)) (o := o + 2) (S := rawCh 1 coins) (a := noAt) (ref_raw hB1 (lab1_0 _ _ _)) (by omega) (by simp [rawCh, newHd]) (by simp [rawCh, newHd]) (by simp [noAt])).mono ?_
  rintro e w5 ⟨rfl, own4, a1, h1, s5⟩
  have m3 := setCell_same m2 0 (.pointer (some ⟨w.heap.size + 1, 0, none⟩))
  rw [← hw3] at m3
  have m5 := (s5.block w.heap.size (by simp; omega) (by rw [lab1_old (by omega), s2.label _ (by simp; omega), lab3_0]; omega)).trans ((heap_alloc_old w3 _ (by omega)).trans m3)
  simp only [List.setIfInBounds_toArray, List.set_cons_zero] at m5
  obtain ⟨y0, y1, y2, yf⟩ := blk3 m5
  have hd := rnew_done (w := w) (own := own) (coins := coins) ho hfresh (g1 := grown_alloc (World.grownBy_alloc w (.cells #[.pointer none, .pointer none, .int .i64 0] tMod) none) (.cells (chCells (rawCh 0 coins) noAt).toArray tCh)) (own1 := lab3 own w.heap.size o) (fun k hk => lab3_old hk) (lab3_0 _ _ _) (by simp) (by rw [heap_alloc_old _ _ (by simp), heap_alloc_new]) h0 s2 (w4 := w3.alloc (.cells (chCells (rawCh 1 coins) noAt).toArray tCh)) (own3 := lab1 own2 w3.heap.size (o + 2)) (by rw [hw3]; exact World.grownBy_alloc _ _ _) (fun k hk => lab1_old (by omega)) (by rw [hz3] at h1; exact h1) s5
  have HD := hd
  clear hd h0 h1 s2 s5 m2 m3 hw3
  go_wp2_with fail
  rw [rounds_succ]
  go_wp2_with fail
  go_ret2
  exact ⟨_, rfl, HD⟩

end Go.Proofs.YtmfdhcnnhlchbaaGreat
