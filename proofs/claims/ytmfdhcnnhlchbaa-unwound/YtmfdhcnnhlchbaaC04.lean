import Derived.Test.YtmfdhcnnhlchbaaC01
import Derived.StillTail
import Derived.StillTactics
import Derived.Test.YtmfdhcnnhlchbaaC03
import Derived.Deep.QuietTactic
import Derived.BigQuiet
import Derived.BigRegion
namespace Go.Proofs.Ytmfdhcnnhlchbaa
open Go.RowKit

/-- A region that draws its order: the first n operations only read; all others wait for them. One walk of the first n in the text's order serves; what follows goes in whatever order is left. -/
def later (md : Region.Mode) (ops : Array Oper) (n : Nat) : Bool :=
  (List.range ops.size).all fun t => decide (t ≤ n) || (List.range t).any fun u => decide (n ≤ u) && Region.waitsFor md ops t u

def leads (md : Region.Mode) (ops : Array Oper) : Nat → Nat → Array Bool → Bool
  | 0, k, listed => (Region.ready md ops listed).all fun j => decide (k ≤ j)
  | f + 1, k, listed => (Region.ready md ops listed).contains k && Region.free md ops listed k && leads md ops f (k + 1) (listed.setIfInBounds k true)

def filled (ops : Array Oper) : Nat → Nat → Array Bool → Array Bool
  | 0, _, listed => listed
  | f + 1, k, listed => filled ops f (k + 1) (listed.setIfInBounds k true)

def headB (md : Region.Mode) (ops : Array Oper) (n : Nat) : Bool :=
  Region.noSelect ops && decide (n < ops.size) && Region.sinkB md ops n && later md ops n && leads md ops n 0 (Array.replicate ops.size false)

section
variable {P : Program} {ops : Array Oper} {md : Region.Mode} {w : World}

theorem waits_for {n : Nat} {listed : Array Bool} (hs : Region.sinkB md ops n = true) (hl : later md ops n = true) (inv : HeadInv md ops n listed) (hn : n < ops.size)
    {i : Nat} (hi : i < n) (hun : listed.getD i true = false) : ∀ t ∈ Region.ready md ops listed, t < n := by
  have first : ∀ d i, n - i = d → i < n → listed.getD i true = false → n ∉ Region.ready md ops listed := by
    intro d
    induction d using Nat.strongRecOn with
    | _ d ih =>
      intro i hd hi hun hr
      obtain ⟨j, hj, hj2⟩ := List.any_eq_true.1 (List.all_eq_true.1 hs i (List.mem_range.2 hi))
      simp only [Bool.and_eq_true, decide_eq_true_eq] at hj2
      obtain ⟨oj, hoj, e, he, hb, hon⟩ := Region.waitsFor_spec hj2.2
      have hjn : j ≤ n := by have := List.mem_range.1 hj; omega
      have bad : listed.getD e.on false = true → False := by rw [hon, getD_both hun]; simp
      by_cases hjt : j = n
      · subst hjt
        obtain ⟨_, ot, hot, hall⟩ := mem_ready.1 hr
        obtain rfl : oj = ot := Option.some.inj (hoj.symm.trans hot)
        exact bad (hall e he hb)
      · cases hlj : listed.getD j false with
        | true => exact bad (inv.closed j oj hoj hlj e he hb)
        | false => exact ih (n - j) (by omega) j rfl (by omega) (getD_in (by rw [inv.size]; omega) hlj) hr
  intro t ht
  rcases Nat.lt_or_ge t n with h | h
  · exact h
  · exfalso
    obtain ⟨_, ot, hot, hall⟩ := mem_ready.1 ht
    have htl : t < ops.size := (Array.getElem?_eq_some_iff.1 hot).1
    have h1 := List.all_eq_true.1 hl t (List.mem_range.2 htl)
    simp only [Bool.or_eq_true, decide_eq_true_eq] at h1
    rcases h1 with h1 | h1
    · obtain rfl : t = n := by omega
      exact first _ i rfl hi hun ht
    · obtain ⟨u, hu, hu2⟩ := List.any_eq_true.1 h1
      simp only [Bool.and_eq_true, decide_eq_true_eq] at hu2
      obtain ⟨o', ho', e, he, hb, hon⟩ := Region.waitsFor_spec hu2.2
      obtain rfl : o' = ot := Option.some.inj (ho'.symm.trans hot)
      have h2 := hall e he hb
      have hut := List.mem_range.1 hu
      rw [hon, getD_both (inv.tail u hu2.1 (by omega))] at h2
      cases h2

theorem take_head {n i : Nat} {oi : Oper} {v : Value} {L : Array Bool → Act → Prop} (hi : ops[i]? = some oi) (hsel : Region.noSelect ops = true)
    (hs : Region.sinkB md ops n = true) (hl : later md ops n = true) (hn : n < ops.size) (hin : i < n) (hdone : ∀ listed a, L listed a → ∀ j ∈ Region.ready md ops listed, n ≤ j) :
    ∀ (f : Nat) (listed : Array Bool) (a : Act), HeadInv md ops n listed →
      (∀ j oj, ops[j]? = some oj → j ≠ i → listed.getD j true = false → (∀ e ∈ oj.after, Region.binds md e = true → e.on ≠ i) → oi.apart ops oj = true) →
      i ∈ Region.ready md ops listed → YieldsAt P ops w oi v a →
      wpAnyL P md ops w n L f (listed.setIfInBounds i true) (a.put oi.dst v) → wpAnyL P md ops w n L (f + 1) listed a := by
  have sel := Region.noSelect_spec hsel
  intro f
  induction f with
  | zero =>
    intro listed a inv _ hr hy H
    have head := waits_for hs hl inv hn hin (mem_ready.1 hr).1
    refine ⟨fun h => (by rw [h] at hr; cases hr), fun j hj => ⟨head j hj, ?_⟩⟩
    by_cases hji : j = i
    · subst hji; exact hy.stOp hi H
    · have h1 := hdone _ _ H j (ready_mono hj hji)
      have h2 := head j hj
      omega
  | succ f ih =>
    intro listed a inv hfree hr hy H
    have hun := (mem_ready.1 hr).1
    have head := waits_for hs hl inv hn hin hun
    refine ⟨fun h => (by rw [h] at hr; cases hr), fun j hj => ⟨head j hj, ?_⟩⟩
    by_cases hji : j = i
    · subst hji; exact hy.stOp hi H
    · obtain ⟨hjun, oj, hoj, hall⟩ := mem_ready.1 hj
      have hnot : ∀ e ∈ oj.after, Region.binds md e = true → e.on ≠ i := fun e he hb heq => by
        have h1 := hall e he hb
        rw [heq, getD_both hun] at h1
        cases h1
      have h2 := stOp_put hoj (hfree j oj hoj hji hjun hnot) (fun cs b => sel i oi cs b hi) (fun cs b => sel j oj cs b hoj) hy (H.2 j (ready_mono hj hji)).2
      refine stOp_mono (fun a' h3 => ih _ a' (inv.set hj (head j hj)) (fun k ok hk hki hu hno => hfree k ok hk hki ?_ hno) (ready_mono hr (Ne.symm hji)) h3.1 ?_) h2
      · by_cases hjk : j = k
        · subst hjk; exact hjun
        · rw [getD_set_ne true hjk] at hu; exact hu
      · rw [Array.setIfInBounds_comm _ _ hji]
        exact h3.2

theorem walk_head {n : Nat} {R : Act → Prop} (hsel : Region.noSelect ops = true) (hs : Region.sinkB md ops n = true) (hl : later md ops n = true) (hn : n < ops.size) (F : Array Bool) :
    ∀ (l : List Oper) (k : Nat) (listed : Array Bool) (a : Act), (∀ j, j < l.length → l[j]? = ops[k + j]?) → k + l.length = n → HeadInv md ops n listed →
    leads md ops l.length k listed = true → filled ops l.length k listed = F → wpStill P ops w R l a →
    wpAnyL P md ops w n (fun listed' a' => (listed' = F ∧ ∀ j ∈ Region.ready md ops F, n ≤ j) ∧ R a') l.length listed a
  | [], k, listed, a, _, hk, _, hB, hF, h => by
    obtain rfl : k = n := by simpa using hk
    obtain rfl : listed = F := hF
    refine ⟨⟨rfl, fun j hj => ?_⟩, h⟩
    have := List.all_eq_true.1 hB j hj
    simpa using this
  | o :: l, k, listed, a, hl', hk, inv, hB, hF, h => by
    have h0 : ops[k]? = some o := by simpa using (hl' 0 (by simp)).symm
    simp only [List.length_cons, leads, Bool.and_eq_true] at hB
    obtain ⟨⟨hr, hf⟩, hB'⟩ := hB
    have hkn : k < n := by simp only [List.length_cons] at hk; omega
    have hr' : k ∈ Region.ready md ops listed := by simpa using hr
    obtain ⟨v, hy, hK⟩ := yieldsAt_of_stOp (K := wpStill P ops w R l) h0 (by unfold stOp; simp only [h0]; exact h)
    exact take_head h0 hsel hs hl hn hkn (fun listed' a' hL => by obtain ⟨⟨rfl, h1⟩, _⟩ := hL; exact h1) l.length listed a inv (Region.free_spec h0 hf) hr' hy
      (walk_head hsel hs hl hn F l (k + 1) _ _ (fun j hj => by have := hl' (j + 1) (by simp; omega); simpa [Nat.add_assoc, Nat.add_comm 1 j] using this) (by simp only [List.length_cons] at hk; omega) (inv.set hr' hkn) hB' hF hK)

end

/-- THE LAW. -/
theorem wp_region_head {P : Program} {id : Nat} {Q : Exit → Act → World → Prop} {a : Act} {w : World} {l : List Oper} (n : Nat) (hm : P.follows .mixedOrders = true) (hB : headB .any l.toArray n = true)
    (F : Array Bool) (hF : filled l.toArray n 0 (Array.replicate l.toArray.size false) = F)
    (h : wpStill P l.toArray w.drew (fun a' => wpAny P .any l.toArray Q (l.length - n) F a' w.drew) (l.take n) a) : (Code.region id l.toArray true).wp P Q a w := by
  simp only [headB, Bool.and_eq_true, decide_eq_true_eq] at hB
  obtain ⟨⟨⟨⟨hsel, hn⟩, hs⟩, hl⟩, hlex⟩ := hB
  have hn' : n < l.length := by simpa using hn
  have htl : (l.take n).length = n := by simp; omega
  have inv0 : HeadInv .any l.toArray n (Array.replicate l.toArray.size false) :=
    ⟨by simp, fun j oj _ hx => (by rw [getD_replicate_false] at hx; cases hx), fun t _ ht => getD_in (by simpa using ht) (getD_replicate_false _ _)⟩
  have H := walk_head (md := .any) hsel hs hl hn F (l.take n) 0 _ a (fun j hj => by
    have hj' : j < n := by rw [htl] at hj; exact hj
    simp [hj']) (by simpa using htl) inv0 (by rw [htl]; exact hlex) (by rw [htl]; exact hF) h
  refine wp_region_any hm ?_
  have := wpAny_of_head (Q' := Q) (g := l.length - n) (fun listed a' hL => by obtain ⟨⟨rfl, _⟩, h2⟩ := hL; exact h2) _ _ _ H
  rw [htl, show n + (l.length - n) = l.toArray.size by simp; omega] at this
  exact this

/-- What is left of a region only reads: one walk in the text's order serves. -/
theorem wpAny_tail {P : Program} {Q : Exit → Act → World → Prop} {a : Act} {w : World} {l : List Oper} {F : Array Bool} {n : Nat} (k : Nat) (hn : (l.drop k).length = n) (hs : Region.noSelect l.toArray = true) (hB : Region.lexFrom .any l.toArray n k F = true)
    (h : wpStill P l.toArray w (fun a' => Q .normal a' w) (l.drop k) a) : wpAny P .any l.toArray Q n F a w := by
  subst hn
  exact wpAny_of_still (Q := fun a' => Q .normal a' w) (fun _ h => h) _ _ _ (wpAnyS_lex hs (l.drop k) k F a (fun j => by simp) hB h)

end Go.Proofs.Ytmfdhcnnhlchbaa

namespace Go.Proofs.Ytmfdhcnnhlchbaa
open Go.RowKit Go.Maps

def Ch.posted (S : Ch) (p : Pk) : Ch := { S with nextSend := IntKind.u64.wrap (S.nextSend + 1), hd := { S.hd with packets := S.hd.packets ++ [{ p with seq := S.nextSend }] } }

theorem wrap_next {n : Int} {B : Nat} (h0 : 1 ≤ n) (h1 : n ≤ B + 1) (hB : B ≤ 10000000) : IntKind.u64.wrap (n + 1) = n + 1 := by
  simp [IntKind.wrap, IntKind.bits, IntKind.signed]
  omega

theorem posted_good {S : Ch} {a : DAt} {B : Nat} {p : Pk} (g : GoodCh S a B) (hB : B ≤ 10000000) (hv : (0 ≤ p.src ∧ p.src ≤ 2) ∧ (0 ≤ p.coin ∧ p.coin ≤ 1)) (a4 : Option Addr) (k4 : Nat) : GoodCh (S.posted p) { a with sent := a.sent ++ [{ p with seq := S.nextSend }], ap := a4, cp := k4 } (B + 1) := by
  obtain ⟨L, hL, hN⟩ := g.news
  have hw := wrap_next g.send.1 g.send.2 hB
  have h0 := g.mono (Nat.le_succ B)
  have hs := g.send
  refine ⟨⟨g.hd.recv, g.hd.ans, ?_, ?_, ?_, ?_, ?_⟩, ?_, ?_, ?_, h0.heads, h0.lh, ?_, h0.lg, h0.lan, h0.lf, ⟨L, hL, ⟨?_, hN.a⟩⟩, g.told, h0.lens, ?_, h0.hseq⟩
  · show (S.hd.packets ++ [_]).Pairwise _
    rw [List.pairwise_append]
    exact ⟨g.hd.seqs, List.pairwise_singleton _ _, fun r hr s hs => by simp at hs; subst hs; exact g.below r hr⟩
  · intro r hr
    simp only [Ch.posted, List.mem_append, List.mem_singleton] at hr
    rcases hr with hr | rfl
    · exact h0.hd.pos r hr
    · simp; omega
  · intro r hr
    simp only [Ch.posted, List.mem_append, List.mem_singleton] at hr
    rcases hr with hr | rfl
    · exact g.hd.val r hr
    · exact hv
  · have := g.hd.lp; simp [Ch.posted]; omega
  · have := g.hd.la; simp [Ch.posted]; omega
  · simp only [Ch.posted]; rw [hw]; omega
  · intro r hr
    simp only [Ch.posted, List.mem_append, List.mem_singleton] at hr ⊢
    rw [hw]
    rcases hr with hr | rfl
    · have := g.below r hr; omega
    · simp; omega
  · intro k hk
    have := g.gone k hk
    simp only [Ch.posted]
    rw [hw]; omega
  · have := g.ls; simp; omega
  · intro k
    show pkF (S.hd.packets ++ [_]) k = _
    rw [pkF_snoc (fun r hr => g.below r hr), learnP_snoc (fun j hj => by have := g.gone j hj; simp; omega)]
    have : pkF S.hd.packets = learnP (pkF L.hd.packets) a.sent a.gone := funext hN.p
    rw [this]
  · intro r hr
    simp only [List.mem_append, List.mem_singleton] at hr
    rcases hr with hr | rfl
    · exact h0.sseq r hr
    · simp; omega

theorem post_done {lab : Nat → Nat} {l : Nat} {w w' : World} {x : Nat} {pre post : List Value} {S : Ch} {K : Hd} {a : DAt} {B : Nat} (h : DevCh lab l w x pre post S K a B) (hl : l ≠ 0) (hB : B ≤ 10000000) (p : Pk) (hv : (0 ≤ p.src ∧ p.src ≤ 2) ∧ (0 ≤ p.coin ∧ p.coin ≤ 1)) (t : Turned x (some a.bp) a.vs.ownBlock w w')
    (a4 : Option Addr) (k4 : Nat) (hx : w'.heap[x]? = some (.cells (pre ++ dchCells (S.posted p) K { a with sent := a.sent ++ [{ p with seq := S.nextSend }], ap := a4, cp := k4 } ++ post).toArray tBr (0, 0)))
    (hM : MapIs Try.prog tU64 encU w' a.bp (putF (pkF S.hd.packets) S.nextSend (Pk.agg { p with seq := S.nextSend })) (putN (pkF S.hd.packets) S.nextSend S.hd.packets.length))
    (hR : w'.ownsRow 0 tPk 7 (.slice a4 (a.sent.length + 1) k4) (a.sent.length + 1) (a.sent.flatMap Pk.cells ++ Pk.cells { p with seq := S.nextSend })) (hf : ∀ k, (Value.slice a4 (a.sent.length + 1) k4).ownBlock = some k → k < w.heap.size → lab k = l) :
    DevTo lab l w x pre post (S.posted p) K (B + 1) w' := by
  obtain ⟨⟨n1, n2, n3⟩, ⟨n4, n5⟩, n6⟩ := h.apart
  have hnone : pkF S.hd.packets S.nextSend = none := by unfold pkF; rw [find_none_of (fun r hr => h.good.below r hr)]; rfl
  refine dev_build (a' := { a with sent := a.sent ++ [{ p with seq := S.nextSend }], ap := a4, cp := k4 }) h hl t.os t.tape t.output t.size (t.keep (fun k e => by cases e; exact h.lmap.1) (fun k e => h.lsent k e)) hx ⟨rfl, rfl, rfl, rfl⟩ ?_ ?_ ?_ ?_ ?_ ?_ ?_ ?_ ?_ ?_ ?_ ?_ ?_ ?_ ?_ (posted_good h.good hB hv a4 k4) (h.goodK.mono (Nat.le_succ B))
  · refine (hM.cong (fun k kl _ => ?_)).congN ?_
    · show pkF (S.hd.packets ++ [_]) k = _
      rw [pkF_snoc (fun r hr => h.good.below r hr)]
    · simp [putN, hnone, Ch.posted]
  · exact t.map h.blk h.fund (by simp; exact fun e => n1 e.symm) (map_ne_row h.fund h.sent)
  · exact t.map h.blk h.kpk (by simp; exact fun e => n2 e.symm) (map_ne_row h.kpk h.sent)
  · exact t.map h.blk h.kan (by simp; exact fun e => n3 e.symm) (map_ne_row h.kan h.sent)
  · simpa [DAt.vs] using hR
  · intro k e; exact hf k (by simpa [DAt.vs] using e)
  · exact t.row h.blk h.gone (by decide) (fun _ => map_ne_row h.pend h.gone) (row_apart h.gone h.sent (by decide))
  · exact fun k e _ => h.lgone k e
  · exact t.row h.blk h.ans (by decide) (fun _ => map_ne_row h.pend h.ans) (row_apart h.ans h.sent (by decide))
  · exact fun k e _ => h.lans k e
  · exact t.row h.blk h.heads (by decide) (fun _ => map_ne_row h.pend h.heads) (row_apart h.heads h.sent (by decide))
  · exact fun k e _ => h.lheads k e
  · exact fun y hy => .inl hy
  · exact h.hsS
  · exact h.fok

set_option maxRecDepth 100000 in
set_option maxHeartbeats 800000 in
theorem post_any {lab : Nat → Nat} {l : Nat} {w : World} {x q : Nat} {pre post : List Value} {S : Ch} {K : Hd} {a : DAt} {B : Nat} (h : DevCh lab l w x pre post S K a B) (hl : l ≠ 0) (hq : pre.length = q) (hB : B ≤ 10000000) (p : Pk) (hv : (0 ≤ p.src ∧ p.src ≤ 2) ∧ (0 ≤ p.coin ∧ p.coin ≤ 1)) :
    Calls Try.prog 45 #[.pointer (some ⟨x, q, none⟩), p.agg] w fun e w' => e = .returned (.int .u64 S.nextSend) ∧ DevTo lab l w x pre post (S.posted p) K (B + 1) w' := by
  obtain ⟨c0, c1, c2, c3, c4, c5, c6, c7, c8, c9, c10, c11, c12, c13, c14, c15, c16, c17, c18, c19, c20, c21, cf⟩ := dch_cells h.blk hq
  have hxl : x < w.heap.size := blk_lt h.blk
  go_enter Try.func45, Try.ntmps45
  go_wp2_with fail
  obtain ⟨w1, hw1⟩ : ∃ w1 : World, w1 = (w.setCell ⟨x, q + 1, none⟩ (.int .u64 (IntKind.u64.wrap (S.nextSend + 1)))).alloc (.cells (Pk.arr { p with seq := S.nextSend }) tPk) := ⟨_, rfl⟩
  rw [← hw1]
  have g1 : w.grownBy w1 (some x) := by rw [hw1]; exact grown_alloc (grown_set (grown_refl w _) _ _ (.inl rfl)) _
  have hB1 : w1.heap[x]? = some (.cells (pre ++ dchCells { S with nextSend := IntKind.u64.wrap (S.nextSend + 1) } K a ++ post).toArray tBr (0, 0)) := by
    rw [hw1, heap_alloc_old _ _ (by rw [setCell_size]; exact hxl)]
    exact blkq_set h.blk hq 1 (by simp [dchCells]) _
  have hX1 : w1.heap[w.heap.size]? = some (.cells (Pk.arr { p with seq := S.nextSend }) tPk (0, 0)) := by
    rw [hw1, ← setCell_size w ⟨x, q + 1, none⟩ (.int .u64 (IntKind.u64.wrap (S.nextSend + 1)))]
    exact heap_alloc_new _ _
  have hM1 : MapIs Try.prog tU64 encU w1 a.bp (pkF S.hd.packets) S.hd.packets.length := h.pend.keep (g1.block _ h.pend.lt (by simpa using map_ne_blk h.pend h.blk))
  have hlp := h.good.hd.lp
  obtain ⟨w2, hrun, hM2, ht2⟩ := (hM1.keep (w' := w1.drew) rfl).store encU_inj lawU Try.underlying64 (by unfold maxLen; omega) (keyU (k := S.nextSend) (by have := h.good.send.1; omega) (by have := h.good.send.2; omega)) (Pk.agg { p with seq := S.nextSend })
  clear c0 c1 c2 c3 c4 c5 c6 c7 c8 c9 c10 c11 c12 c13 c14 c15 c16 c17 c18 c19 c20 c21 cf hw1
  obtain ⟨c0, c1, c2, c3, c4, c5, c6, c7, c8, c9, c10, c11, c12, c13, c14, c15, c16, c17, c18, c19, c20, c21, cf⟩ := dch_cells hB1 hq
  obtain ⟨x0, x1, x2, x3, x4, x5, x6, xf⟩ := blk7 hX1
  simp only [encU] at hrun
  go_region
  have hP2 : w2.ownsRow 0 tPk 7 (.slice a.ap a.sent.length a.cp) a.sent.length (a.sent.flatMap Pk.cells) := by
    refine owns_keep h.sent fun k e => ?_
    have hk := owns_lt h.sent e
    rw [ht2.grown.block k (Nat.lt_of_lt_of_le hk g1.size) (fun e1 => map_ne_row h.pend h.sent (by rw [e1] at e; exact e.symm))]
    exact g1.block k hk (fun e1 => owns_ne h.blk h.sent (by decide) (by rw [e, e1]))
  have hbx : a.bp ≠ x := map_ne_blk h.pend h.blk
  have hbX : w.heap.size ≠ a.bp := by have := h.pend.lt; omega
  have hB2 := (ht2.grown.block x (blk_lt hB1) (by simp; exact fun e => hbx e.symm)).trans hB1
  have hX2 := (ht2.grown.block w.heap.size (blk_lt hX1) (by simp; exact hbX)).trans hX1
  clear c0 c1 c2 c3 c4 c5 c6 c7 c8 c9 c10 c11 c12 c13 c14 c15 c16 c17 c18 c19 c20 c21 cf x0 x1 x2 x3 x4 x5 x6 xf hrun
  obtain ⟨c0, c1, c2, c3, c4, c5, c6, c7, c8, c9, c10, c11, c12, c13, c14, c15, c16, c17, c18, c19, c20, c21, cf⟩ := dch_cells hB2 hq
  obtain ⟨x0, x1, x2, x3, x4, x5, x6, xf⟩ := blk7 hX2
  obtain ⟨i0, hi0, z0, s0, y0⟩ := info_parts infoPk
  have hls := h.good.ls
  have hnb : some x ≠ (Value.slice a.ap a.sent.length a.cp).ownBlock := owns_ne hB2 hP2 (by decide)
  have hnx : some w.heap.size ≠ (Value.slice a.ap a.sent.length a.cp).ownBlock := fun e => by have := owns_lt h.sent e.symm; omega
  have hxl2 : x < w2.heap.size := blk_lt hB2
  have hXl2 : w.heap.size < w2.heap.size := blk_lt hX2
  go_wp2_with fail
  go_region_law (refine step_append_rows rfl (.tmp 29) (.tmp 31) 32 rfl 43 i0 _ 7 56 Try.underlying32 hi0 z0 s0 y0 rfl (by decide) (.slice a.ap a.sent.length a.cp) a.sent.length (a.sent.flatMap Pk.cells) (by simp [Act.eval]) (by exact hP2.alloc _) (.slice (some ⟨w2.heap.size, 0, none⟩) 1 1) 1 (Pk.cells { p with seq := S.nextSend }) (by simp [Act.eval]) (by exact src_row (Pk.cells { p with seq := S.nextSend }) rfl) (by exact Pk.one _) (by omega) (by omega) ?_; intro v4 w4 own4 grow4 lab4; obtain ⟨d0, d1, d2, d3, d4, d5, d6, d7, d8, d9, d10, d11, d12, d13, d14, d15, d16, d17, d18, d19, d20, d21, df⟩ := dch_cells (app_keep hB2 grow4 hnb) hq; obtain ⟨y0, y1, y2, y3, y4, y5, y6, yf⟩ := blk7 (app_keep hX2 grow4 hnx); obtain ⟨a4, k4, hv4⟩ := owns_form own4; rw [hv4])
  all_goals
    go_wp2_with fail
    subst hv4
    go_ret
    refine ⟨rfl, post_done h hl hB p hv ?_ a4 k4 ?_ ?_ ?_ ?_⟩
    · exact Turned.app ((turned_x g1).trans (turned_drew (turned_m ht2.grown)) (fun k e => .inl e) (fun k e => .inl e)) grow4 rfl
    · have := blkq_set (app_keep hB2 grow4 hnb) hq 4 (by simp [dchCells]) (.slice a4 (a.sent.length + 1) k4)
      simpa [dchCells, Ch.posted, DAt.vs, DAt.vg, DAt.va, DAt.vh] using this
    · exact map_app hM2 grow4 hbx (map_ne_row h.pend h.sent)
    · exact owns_keep own4 fun k e => setCell_other _ _ _ (fun e1 => owns_ne (app_keep hB2 grow4 hnb) own4 (by decide) (by rw [e, e1]))
    · exact lab_fresh h.lsent lab4 (by have := g1.size; have := ht2.grown.size; simp at *; omega)

end Go.Proofs.Ytmfdhcnnhlchbaa

namespace Go.Proofs.Ytmfdhcnnhlchbaa
open Go.RowKit Go.Maps

theorem find_erase {l : List Pk} (h : l.Pairwise (fun p r => p.seq < r.seq)) (n k : Int) : ((l.eraseP fun p => p.seq == n).find? fun p => p.seq == k) = if k = n then none else l.find? fun p => p.seq == k := by
  induction l with
  | nil => simp
  | cons p r ih =>
    obtain ⟨h1, h2⟩ := List.pairwise_cons.1 h
    by_cases e : p.seq = n
    · rw [List.eraseP_cons_of_pos (by simpa using e)]
      by_cases e1 : k = n
      · rw [if_pos e1, List.find?_eq_none]
        intro s hs
        have := h1 s hs
        simp
        omega
      · rw [if_neg e1, List.find?_cons_of_neg (by simp; omega)]
    · rw [List.eraseP_cons_of_neg (by simpa using e)]
      by_cases e2 : p.seq = k
      · rw [List.find?_cons_of_pos (by simpa using e2), if_neg (by omega), List.find?_cons_of_pos (by simpa using e2)]
      · rw [List.find?_cons_of_neg (by simpa using e2), ih h2, List.find?_cons_of_neg (by simpa using e2)]

theorem pkF_erase {l : List Pk} (h : l.Pairwise (fun p r => p.seq < r.seq)) (n k : Int) : pkF (l.eraseP fun p => p.seq == n) k = delF (pkF l) n k := by
  unfold pkF delF
  rw [find_erase h]
  split <;> simp

theorem learnP_gone {f : Int → Option Value} {sent : List Pk} {gone : List Int} {n : Int} : learnP f sent (gone ++ [n]) = delF (learnP f sent gone) n := by
  unfold learnP
  rw [List.foldl_append]
  rfl

theorem gone_good {S : Ch} {a : DAt} {B : Nat} {n : Int} {p : Pk} (g : GoodCh S a B) (hp : S.hd.packets.find? (fun p => p.seq == n) = some p) (a4 : Option Addr) (k4 : Nat) : GoodCh (S.gone n) { a with gone := a.gone ++ [n], ag := a4, cg := k4 } (B + 1) := by
  obtain ⟨L, hL, hN⟩ := g.news
  have h0 := g.mono (Nat.le_succ B)
  have hpm := List.mem_of_find?_eq_some hp
  have hps : p.seq = n := by have := List.find?_some hp; simpa using this
  have sub : ∀ r ∈ (S.gone n).hd.packets, r ∈ S.hd.packets := fun r hr => List.mem_of_mem_eraseP hr
  refine ⟨⟨g.hd.recv, g.hd.ans, g.hd.seqs.sublist List.eraseP_sublist, fun r hr => h0.hd.pos r (sub r hr), fun r hr => g.hd.val r (sub r hr), ?_, ?_⟩, h0.send, fun r hr => g.below r (sub r hr), ?_, h0.heads, h0.lh, h0.ls, ?_, h0.lan, h0.lf, ⟨L, hL, ⟨?_, hN.a⟩⟩, g.told, h0.lens, h0.sseq, h0.hseq⟩
  · have h1 := g.hd.lp
    have h2 : (S.gone n).hd.packets.length ≤ S.hd.packets.length := List.length_eraseP_le
    omega
  · have := g.hd.la; simp [Ch.gone]; omega
  · intro k hk
    simp only [List.mem_append, List.mem_singleton] at hk
    rcases hk with hk | rfl
    · exact g.gone k hk
    · have h1 := g.below p hpm
      have h2 := (g.hd.pos p hpm).1
      simp only [Ch.gone]
      omega
  · have := g.lg; simp; omega
  · intro k
    show pkF (S.hd.packets.eraseP _) k = _
    rw [pkF_erase g.hd.seqs, learnP_gone]
    have : pkF S.hd.packets = learnP (pkF L.hd.packets) a.sent a.gone := funext hN.p
    rw [this]

theorem drop_done {lab : Nat → Nat} {l : Nat} {w w' : World} {x : Nat} {pre post : List Value} {S : Ch} {K : Hd} {a : DAt} {B : Nat} {n : Int} {p : Pk} (h : DevCh lab l w x pre post S K a B) (hl : l ≠ 0) (hp : S.hd.packets.find? (fun p => p.seq == n) = some p) (t : Turned x (some a.bp) a.vg.ownBlock w w')
    (a4 : Option Addr) (k4 : Nat) (hx : w'.heap[x]? = some (.cells (pre ++ dchCells (S.gone n) K { a with gone := a.gone ++ [n], ag := a4, cg := k4 } ++ post).toArray tBr (0, 0)))
    (hM : MapIs Try.prog tU64 encU w' a.bp (delF (pkF S.hd.packets) n) (delN (pkF S.hd.packets) n S.hd.packets.length))
    (hR : w'.ownsRow 0 tU64 1 (.slice a4 (a.gone.length + 1) k4) (a.gone.length + 1) (a.gone.map encU ++ [encU n])) (hf : ∀ k, (Value.slice a4 (a.gone.length + 1) k4).ownBlock = some k → k < w.heap.size → lab k = l) :
    DevTo lab l w x pre post (S.gone n) K (B + 1) w' := by
  obtain ⟨⟨n1, n2, n3⟩, ⟨n4, n5⟩, n6⟩ := h.apart
  refine dev_build (a' := { a with gone := a.gone ++ [n], ag := a4, cg := k4 }) h hl t.os t.tape t.output t.size (t.keep (fun k e => by cases e; exact h.lmap.1) (fun k e => h.lgone k e)) hx ⟨rfl, rfl, rfl, rfl⟩ ?_ ?_ ?_ ?_ ?_ ?_ ?_ ?_ ?_ ?_ ?_ ?_ ?_ ?_ ?_ (gone_good h.good hp a4 k4) (h.goodK.mono (Nat.le_succ B))
  · refine (hM.cong (fun k kl _ => ?_)).congN ?_
    · exact pkF_erase h.good.hd.seqs n k
    · have hps : p.seq = n := by have := List.find?_some hp; simpa using this
      have hsome : (pkF S.hd.packets n).isSome = true := by unfold pkF; rw [hp]; rfl
      simp only [delN, hsome, if_true, Ch.gone]
      rw [List.length_eraseP_of_mem (List.mem_of_find?_eq_some hp) (by simpa using hps)]
  · exact t.map h.blk h.fund (by simp; exact fun e => n1 e.symm) (map_ne_row h.fund h.gone)
  · exact t.map h.blk h.kpk (by simp; exact fun e => n2 e.symm) (map_ne_row h.kpk h.gone)
  · exact t.map h.blk h.kan (by simp; exact fun e => n3 e.symm) (map_ne_row h.kan h.gone)
  · exact t.row h.blk h.sent (by decide) (fun _ => map_ne_row h.pend h.sent) (row_apart h.sent h.gone (by decide))
  · exact fun k e _ => h.lsent k e
  · simpa [DAt.vg] using hR
  · intro k e; exact hf k (by simpa [DAt.vg] using e)
  · exact t.row h.blk h.ans (by decide) (fun _ => map_ne_row h.pend h.ans) (row_apart h.ans h.gone (by decide))
  · exact fun k e _ => h.lans k e
  · exact t.row h.blk h.heads (by decide) (fun _ => map_ne_row h.pend h.heads) (row_apart h.heads h.gone (by decide))
  · exact fun k e _ => h.lheads k e
  · exact fun y hy => .inl hy
  · exact h.hsS
  · exact h.fok

/-- An append that is not drawn, then the cell. -/
theorem Turned.app0 {x : Nat} {bm r : Option Nat} {w w3 w4 : World} {X : Obj} {ad : Addr} {v : Value} (t : Turned x bm r w w3) (g : (w3.alloc X).grownBy w4 r) (hx : ad.block = x) : Turned x bm r w (w4.setCell ad v) :=
  t.app (X := X) ⟨g.os, g.tape, g.output, g.size, g.block⟩ hx

theorem app_keep0 {w3 w4 : World} {X O : Obj} {b : Nat} {row : Option Nat} (hB3 : w3.heap[b]? = some O) (hg : (w3.alloc X).grownBy w4 row) (hne : some b ≠ row) : w4.heap[b]? = some O :=
  app_keep (X := X) hB3 ⟨hg.os, hg.tape, hg.output, hg.size, hg.block⟩ hne

theorem map_app0 {α : Type} {enc : α → Value} {P : Program} {kt : TypeId} {b n : Nat} {r : Option Nat} {w3 w4 : World} {f : α → Option Value} {X : Obj} {ad : Addr} {v : Value} (hm : MapIs P kt enc w3 b f n) (g : (w3.alloc X).grownBy w4 r) (h1 : b ≠ ad.block) (h2 : some b ≠ r) : MapIs P kt enc (w4.setCell ad v) b f n :=
  map_app (X := X) hm ⟨g.os, g.tape, g.output, g.size, g.block⟩ h1 h2

set_option maxRecDepth 100000 in
set_option maxHeartbeats 800000 in
theorem drop_any {lab : Nat → Nat} {l : Nat} {w : World} {x q : Nat} {pre post : List Value} {S : Ch} {K : Hd} {a : DAt} {B : Nat} {n : Int} {p : Pk} (h : DevCh lab l w x pre post S K a B) (hl : l ≠ 0) (hq : pre.length = q) (hB : B ≤ 10000000) (hp : S.hd.packets.find? (fun p => p.seq == n) = some p) :
    Calls Try.prog 52 #[.pointer (some ⟨x, q, none⟩), .int .u64 n] w fun e w' => e = .returned (.tuple #[]) ∧ DevTo lab l w x pre post (S.gone n) K (B + 1) w' := by
  obtain ⟨c0, c1, c2, c3, c4, c5, c6, c7, c8, c9, c10, c11, c12, c13, c14, c15, c16, c17, c18, c19, c20, c21, cf⟩ := dch_cells h.blk hq
  have hxl : x < w.heap.size := blk_lt h.blk
  have hps : p.seq = n := by have := List.find?_some hp; simpa using this
  have hpos := h.good.hd.pos p (List.mem_of_find?_eq_some hp)
  have hkey := keyU (k := n) (by omega) (by omega)
  have hbx : a.bp ≠ x := map_ne_blk h.pend h.blk
  go_enter Try.func52, Try.ntmps52
  go_wp2_with (at_delete; refine wpList_map_drop encU_inj rfl _ _ 64 rfl 43 lawU Try.underlying64 rfl h.pend n _ rfl hkey ?_)
  intro w2 hM2 ht2
  have hB2 := (ht2.grown.block x hxl (by simp; exact fun e => hbx e.symm)).trans h.blk
  have hP2 : w2.ownsRow 0 tU64 1 (.slice a.ag a.gone.length a.cg) a.gone.length (a.gone.map encU) := owns_keep h.gone fun k e => ht2.grown.block k (owns_lt h.gone e) (fun e1 => map_ne_row h.pend h.gone (by rw [e1] at e; exact e.symm))
  clear c0 c1 c2 c3 c4 c5 c6 c7 c8 c9 c10 c11 c12 c13 c14 c15 c16 c17 c18 c19 c20 c21 cf
  obtain ⟨c0, c1, c2, c3, c4, c5, c6, c7, c8, c9, c10, c11, c12, c13, c14, c15, c16, c17, c18, c19, c20, c21, cf⟩ := dch_cells hB2 hq
  obtain ⟨i0, hi0, z0, s0, y0⟩ := info_parts infoU64
  have hlg := h.good.lg
  have hnb : some x ≠ (Value.slice a.ag a.gone.length a.cg).ownBlock := owns_ne hB2 hP2 (by decide)
  have hxl2 : x < w2.heap.size := blk_lt hB2
  go_wp2_with (at_builtin; refine wpList_append_rows rfl (.tmp 14) (.tmp 16) 47 rfl 28 i0 _ 1 8 Try.underlying47 hi0 z0 s0 y0 rfl (by decide) (.slice a.ag a.gone.length a.cg) a.gone.length (a.gone.map encU) rfl ?ho (.slice (some ⟨w2.heap.size, 0, none⟩) 1 1) 1 [.int .u64 n] rfl ?hs ?h1 ?hb1 ?hb2 ?_)
  case ho => exact hP2.alloc _
  case hs => exact src_row [.int .u64 n] rfl
  case h1 => intro u hu; simp at hu; subst hu; rfl
  case hb1 => omega
  case hb2 => omega
  intro v4 w4 own4 grow4 lab4
  obtain ⟨a4, k4, hv4⟩ := owns_form own4
  subst hv4
  have hB4 := app_keep0 hB2 grow4 hnb
  clear c0 c1 c2 c3 c4 c5 c6 c7 c8 c9 c10 c11 c12 c13 c14 c15 c16 c17 c18 c19 c20 c21 cf
  obtain ⟨c0, c1, c2, c3, c4, c5, c6, c7, c8, c9, c10, c11, c12, c13, c14, c15, c16, c17, c18, c19, c20, c21, cf⟩ := dch_cells hB4 hq
  go_wp2_with fail
  go_end0
  refine ⟨rfl, drop_done h hl hp ?_ a4 k4 ?_ ?_ ?_ ?_⟩
  · exact Turned.app0 (turned_m ht2.grown) grow4 rfl
  · have := blkq_set hB4 hq 5 (by simp [dchCells]) (.slice a4 (a.gone.length + 1) k4)
    simpa [dchCells, Ch.gone, DAt.vs, DAt.vg, DAt.va, DAt.vh] using this
  · exact map_app0 hM2 grow4 hbx (map_ne_row h.pend h.gone)
  · exact owns_keep own4 fun k e => setCell_other _ _ _ (fun e1 => owns_ne hB4 own4 (by decide) (by rw [e, e1]))
  · exact lab_fresh h.lgone lab4 (by have := ht2.grown.size; simp at *; omega)

end Go.Proofs.Ytmfdhcnnhlchbaa
