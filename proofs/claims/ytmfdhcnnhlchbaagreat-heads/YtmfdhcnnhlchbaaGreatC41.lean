import Derived.Test.YtmfdhcnnhlchbaaGreatC07
import Derived.Test.YtmfdhcnnhlchbaaGreatC40
namespace Go.Proofs.YtmfdhcnnhlchbaaGreat
open Go.RowKit Go.Maps

/-- How the law's labels and the program's go together: what is the pair's (o + 3) is one of the program's three, what nobody writes (0) bears 0, all else is far. -/
structure LabOk (own lab : Nat → Nat) (o n : Nat) : Prop where
  zero : ∀ k, k < n → own k = 0 → lab k = 0
  mine : ∀ k, k < n → own k = o + 3 → 1 ≤ lab k ∧ lab k ≤ 3
  far : ∀ k, k < n → own k ≠ 0 → own k ≠ o + 3 → 4 ≤ lab k

theorem LabOk.back {own lab : Nat → Nat} {o n k : Nat} (h : LabOk own lab o n) (hk : k < n) (hl : 1 ≤ lab k ∧ lab k ≤ 3) : own k = o + 3 := by
  by_cases e : own k = o + 3
  · exact e
  · by_cases e0 : own k = 0
    · have := h.zero k hk e0; omega
    · have := h.far k hk e0 e; omega

theorem LabOk.back0 {own lab : Nat → Nat} {o n k : Nat} (h : LabOk own lab o n) (hk : k < n) (hl : lab k = 0) : own k = 0 := by
  by_cases e0 : own k = 0
  · exact e0
  · by_cases e : own k = o + 3
    · have := h.mine k hk e; omega
    · have := h.far k hk e0 e; omega

/-- The program's side of a pair. -/
def DevP (N : Nat) (own : Nat → Nat) (o : Nat) (w : World) (x : Nat) (m : Mod) : Prop :=
  ∃ lab a0 a1 K0 K1 B, Br lab w x m a0 a1 K0 K1 B ∧ B ≤ 6 + 4 * N ∧ LabOk own lab o w.heap.size

theorem Br.relab {lab lab' : Nat → Nat} {w w' : World} {x : Nat} {m : Mod} {a0 a1 : DAt} {K0 K1 : Hd} {B : Nat} (h : Br lab w x m a0 a1 K0 K1 B) (hb : ∀ k, k < w.heap.size → lab k ≤ 3 → w'.heap[k]? = w.heap[k]?) (hl : ∀ k, k < w.heap.size → lab' k = lab k) : Br lab' w' x m a0 a1 K0 K1 B := by
  have hx := blk_lt h.c0.blk
  have hxx := hb x hx (by rw [h.lx]; omega)
  exact ⟨h.c0.keep (hxx.trans h.c0.blk) (fun k hk e => hb k hk (by omega)) hl, h.c1.keep (hxx.trans h.c1.blk) (fun k hk e => hb k hk (by omega)) hl, h.k0, h.k1, h.h0, h.h1, by rw [hl x hx]; exact h.lx⟩

theorem DevP.keep {N : Nat} {own own' : Nat → Nat} {o : Nat} {w w' : World} {x : Nat} {m : Mod} {T : Nat → Prop} (h : DevP N own o w x m) (s : StepS T own own' w w') (h3 : ¬ T (o + 3)) (h0 : ¬ T 0) : DevP N own' o w' x m := by
  obtain ⟨lab, a0, a1, K0, K1, B, hb, hB, hl⟩ := h
  refine ⟨fun k => if k < w.heap.size then lab k else if own' k = 0 then 0 else if own' k = o + 3 then 1 else 4, a0, a1, K0, K1, B, hb.relab (fun k hk e => s.block k hk ?_) (fun k hk => by simp [hk]), hB, ⟨?_, ?_, ?_⟩⟩
  · by_cases e0 : lab k = 0
    · rw [hl.back0 hk e0]; exact h0
    · rw [hl.back hk ⟨by omega, e⟩]; exact h3
  · intro k hk e
    by_cases hw : k < w.heap.size
    · simp only [hw, if_true]; exact hl.zero k hw (by rw [← s.label k hw]; exact e)
    · simp [hw, e]
  · intro k hk e
    by_cases hw : k < w.heap.size
    · simp only [hw, if_true]; exact hl.mine k hw (by rw [← s.label k hw]; exact e)
    · simp [hw, e]
  · intro k hk e e3
    by_cases hw : k < w.heap.size
    · simp only [hw, if_true]; exact hl.far k hw (by rw [← s.label k hw]; exact e) (by rw [← s.label k hw]; exact e3)
    · simp [hw, e, e3]

theorem DevP.step {N : Nat} {own : Nat → Nat} {o : Nat} {w w' : World} {x B : Nat} {m' : Mod} {lab : Nat → Nat} (hl : LabOk own lab o w.heap.size) (h : BrTo lab w x m' B w') (hB : B ≤ 6 + 4 * N) : ∃ own', DevP N own' o w' x m' ∧ StepS (fun l => l = o + 3) own own' w w' := by
  obtain ⟨lab', a0, a1, K0, K1, hb, st⟩ := h
  refine ⟨fun k => if k < w.heap.size then own k else if lab' k = 0 then 0 else o + 3, ⟨lab', a0, a1, K0, K1, B, hb, hB, ⟨?_, ?_, ?_⟩⟩, ⟨st.os, st.tape, st.output, st.size, fun k hk => by simp [hk], fun k hk e => ?_⟩⟩
  · intro k hk e
    by_cases hw : k < w.heap.size
    · simp only [hw, if_true] at e; rw [st.label k hw]; exact hl.zero k hw e
    · simp only [hw, if_false] at e
      by_cases e0 : lab' k = 0
      · exact e0
      · simp [e0] at e
  · intro k hk e
    by_cases hw : k < w.heap.size
    · simp only [hw, if_true] at e; rw [st.label k hw]; exact hl.mine k hw e
    · simp only [hw, if_false] at e
      by_cases e0 : lab' k = 0
      · simp [e0] at e
      · have := st.new k (by omega) hk; omega
  · intro k hk e e3
    by_cases hw : k < w.heap.size
    · simp only [hw, if_true] at e e3; rw [st.label k hw]; exact hl.far k hw e e3
    · simp only [hw, if_false] at e e3
      by_cases e0 : lab' k = 0
      · simp [e0] at e
      · simp [e0] at e3
  · by_cases e0 : own k = 0
    · exact st.block k hk (hl.zero k hk e0)
    · exact st.far k hk (hl.far k hk e0 e)

theorem hdn0_rows (lab : Nat → Nat) (w : World) : HdRows lab w hdn0 := ⟨⟨nil_row _ _ _, nil_lab _ _⟩, ⟨nil_row _ _ _, nil_lab _ _⟩, nil_row _ _ _, nil_lab _ _⟩

theorem DevCh.relab0 {lab lab' : Nat → Nat} {l : Nat} {w : World} {x : Nat} {pre post : List Value} {S : Ch} {K : Hd} {a : DAt} {B : Nat} (h : DevCh lab l w x pre post S K a B) (hl0 : l ≠ 0) (hl : ∀ k, lab k ≠ 0 → lab' k = lab k) (hh : a.hs = [hdn0]) : DevCh lab' l w x pre post S K a B := by
  obtain ⟨m1, m2, m3, m4⟩ := h.lmap
  have row : ∀ {v : Value}, labelled lab v l → labelled lab' v l := fun g k e => by
    have := g k e
    rw [hl k (by omega)]; exact this
  refine { h with lx := ?_, lmap := ⟨by rw [hl _ (by omega)]; exact m1, by rw [hl _ (by omega)]; exact m2, by rw [hl _ (by omega)]; exact m3, by rw [hl _ (by omega)]; exact m4⟩, lsent := row h.lsent, lgone := row h.lgone, lans := row h.lans, lheads := row h.lheads, each := ?_ }
  · rw [hl x h.lx.2]; exact h.lx
  · rw [hh]
    intro y hy
    simp only [List.mem_singleton] at hy
    subst hy
    exact hdn0_rows _ _

theorem known_height0 {lab : Nat → Nat} {w : World} {x : Nat} {m : Mod} {a0 a1 : DAt} {K0 K1 : Hd} {B : Nat} (h : Br lab w x m a0 a1 K0 K1 B) : K0.height = m.c0.known := by
  obtain ⟨y, hy, rfl⟩ := h.k0
  have : m.c1.heads[m.c0.known]? = some y.hd := by rw [← h.c1.hsS]; simp [hy]
  exact (h.c1.good.heads _ _ this).1

theorem known_height1 {lab : Nat → Nat} {w : World} {x : Nat} {m : Mod} {a0 a1 : DAt} {K0 K1 : Hd} {B : Nat} (h : Br lab w x m a0 a1 K0 K1 B) : K1.height = m.c1.known := by
  obtain ⟨y, hy, rfl⟩ := h.k1
  have : m.c0.heads[m.c1.known]? = some y.hd := by rw [← h.c0.hsS]; simp [hy]
  exact (h.c0.good.heads _ _ this).1

def LookTo (S : Ch) (own : Nat → Nat) (w : World) (e : Ending) (w' : World) : Prop := ∃ al cl own', e = .returned (.tuple #[lookAgg S al cl, .int .i64 0]) ∧
      w'.ownsRow 0 tU64 1 (.slice al S.hd.packets.length cl) S.hd.packets.length (S.hd.packets.map fun p => .int .u64 p.seq) ∧ (al = none → cl = 0) ∧ labelled own' (.slice al S.hd.packets.length cl) 2 ∧
      (∀ k, (Value.slice al S.hd.packets.length cl).ownBlock = some k → w.heap.size ≤ k) ∧ StepS (fun _ => False) own own' w w'

theorem look_to {S : Ch} {K : Hd} {own : Nat → Nat} {w : World} {e : Ending} {w' : World} (h : LookPost2 S K w e w') (hK : K.height = S.known) : LookTo S own w e w' := by
  obtain ⟨al, cl, h1, h2, h3, h4, h5⟩ := h
  rw [hK] at h1
  refine ⟨al, cl, fun k => if k < w.heap.size then own k else 2, h1, h2, h3, fun k e => ?_, h4, stepS_of_none h5 (fun k hk => by simp [hk])⟩
  have := h4 k e
  simp; omega

theorem dev_side : DevSide DevP (fun _ => True) where
  lab := by
    rintro N own o w x m ⟨lab, a0, a1, K0, K1, B, hb, hB, hl⟩
    have hx := blk_lt hb.c0.blk
    exact ⟨hx, hl.back hx (by rw [hb.lx]; omega)⟩
  mono := by
    rintro N M own o w x m ⟨lab, a0, a1, K0, K1, B, hb, hB, hl⟩ hM
    exact ⟨lab, a0, a1, K0, K1, B, hb, by omega, hl⟩
  keep := fun h s h3 h0 => h.keep s h3 h0
  new := by
    intro own w coins o ho hown h0 hc
    refine (new_okX h0 hc).mono ?_
    rintro e w' ⟨x, lab, a0, a1, rfl, hb, hold, hle, hx, g, e0, e1⟩
    refine ⟨x, fun k => if k < w.heap.size then own k else if lab k = 0 then 0 else o + 3, rfl, ⟨fun k => if k < w.heap.size then (if own k = 0 then 0 else 4) else lab k, a0, a1, newHd, newHd, 6, ⟨?_, ?_, hb.k0, hb.k1, hb.h0, hb.h1, ?_⟩, by omega, ⟨?_, ?_, ?_⟩⟩, stepS_of_none g (fun k hk => by simp [hk]), ?_⟩
    · refine hb.c0.relab0 (by decide) (fun k hk => ?_) e0
      have : ¬ k < w.heap.size := fun e => hk (hold k e)
      simp [this]
    · refine hb.c1.relab0 (by decide) (fun k hk => ?_) e1
      have : ¬ k < w.heap.size := fun e => hk (hold k e)
      simp [this]
    · have : ¬ x < w.heap.size := by omega
      simp only [this, if_false]; exact hb.lx
    · intro k hk e
      by_cases hw : k < w.heap.size
      · simp only [hw, if_true] at e ⊢; simp [e]
      · simp only [hw, if_false] at e ⊢
        by_cases e0 : lab k = 0
        · exact e0
        · simp [e0] at e
    · intro k hk e
      by_cases hw : k < w.heap.size
      · simp only [hw, if_true] at e; have := hown k hw; omega
      · simp only [hw, if_false] at e ⊢
        by_cases e0 : lab k = 0
        · simp [e0] at e
        · have := hle k; omega
    · intro k hk e e3
      by_cases hw : k < w.heap.size
      · simp only [hw, if_true] at e e3 ⊢; simp [e]
      · simp only [hw, if_false] at e e3
        by_cases e0 : lab k = 0
        · simp [e0] at e
        · simp [e0] at e3
    · intro k h1 h2
      have : ¬ k < w.heap.size := by omega
      by_cases e0 : lab k = 0 <;> simp [this, e0]
  newNo := fun hc => (newBig hc).mono (by rintro e w' ⟨rfl, rfl⟩; exact ⟨rfl, grown_refl _ _⟩)
  step := by
    rintro N own o w x m c k n p ⟨lab, a0, a1, K0, K1, B, hb, hB, hl⟩ ho hL hN hc _ hn
    have ht : 0 ≤ m.taken ∧ m.taken ≤ 9000000 := ⟨hL.t0, by have := hL.t1; omega⟩
    rcases hc with rfl | rfl
    · refine (do0 hb (by omega) ht hn).mono ?_
      rintro e w' ⟨rfl, hto⟩
      exact ⟨rfl, DevP.step hl hto (by omega)⟩
    · refine (do1 hb (by omega) ht hn).mono ?_
      rintro e w' ⟨rfl, hto⟩
      exact ⟨rfl, DevP.step hl hto (by omega)⟩
  stepNo := fun _ h0 h1 => doNo h0 h1
  look := by
    rintro N own o w x m c ⟨lab, a0, a1, K0, K1, B, hb, hB, hl⟩ ho hL hN hc
    rcases hc with rfl | rfl
    · exact (look0_any hb (by omega)).mono fun e w' h => look_to h (known_height0 hb)
    · exact (look1_any hb (by omega)).mono fun e w' h => look_to h (known_height1 hb)
  lookNo := fun _ h0 h1 => lookNo h0 h1
  balance := by
    rintro N own o w x m c user coin ⟨lab, a0, a1, K0, K1, B, hb, hB, hl⟩ hu hc
    by_cases h0 : c = 0
    · subst h0
      exact (balance0 hb hu hc).mono (by rintro e w' ⟨rfl, rfl⟩; exact ⟨rfl, grown_refl _ _⟩)
    · by_cases h1 : c = 1
      · subst h1
        exact (balance1 hb hu hc).mono (by rintro e w' ⟨rfl, rfl⟩; exact ⟨rfl, grown_refl _ _⟩)
      · refine (balanceNo h0 h1).mono ?_
        rintro e w' ⟨rfl, rfl⟩
        exact ⟨by rw [show balM m c user coin = 0 from by simp [balM, h0, h1]], grown_refl _ _⟩
  headNo := fun _ h0 h1 => headNo h0 h1
  headFar := by
    rintro N own o w x m c n ⟨lab, a0, a1, K0, K1, B, hb, hB, hl⟩ hL hN hc hf
    rcases hc with rfl | rfl
    · exact headFar0 hb (by omega) hf
    · exact headFar1 hb (by omega) hf
  head := by
    rintro N own o w x m n c K ⟨lab, a0, a1, K0, K1, B, hb, hB, hl⟩ hL hN hc hf
    rcases hc with rfl | rfl
    · exact head0 hb (by omega) hf
    · exact head1 hb (by omega) hf
  same := by
    rintro N own o w x m c n d n2 ⟨lab, a0, a1, K0, K1, B, hb, hB, hl⟩ hL hN h1 h2
    exact same_any hb (by omega) c n d n2 h1 h2
  taken := by
    rintro N own o w x m ⟨lab, a0, a1, K0, K1, B, hb, hB, hl⟩
    exact (taken_any hb).mono (by rintro e w' ⟨rfl, rfl⟩; exact ⟨rfl, grown_refl _ _⟩)

end Go.Proofs.YtmfdhcnnhlchbaaGreat
