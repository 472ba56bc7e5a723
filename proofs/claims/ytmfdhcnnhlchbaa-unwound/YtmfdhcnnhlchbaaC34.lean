import Derived.Test.YtmfdhcnnhlchbaaC30
import Derived.Deep.CutBlock
namespace Go.Proofs.Ytmfdhcnnhlchbaa
open Go.RowKit Go.Maps

section
variable {lab : Nat → Nat} {w : World} {y x : Nat} {m : Mod} {L0 L1 : Lg} {r0 r1 : LgAt} {B c o i : Nat} {k n seq : Int} {p : Pk}

theorem lgOf_put {o : Nat} {L : Lg} (ho : o < 2) : lgOf (put0 o L0 L) (put1 o L1 L) o = L := by
  rcases (show o = 0 ∨ o = 1 by omega) with rfl | rfl <;> rfl

theorem put_put {α : Type} {o : Nat} {a b d : α} : put0 o (put0 o a b) d = put0 o a d ∧ put1 o (put1 o a b) d = put1 o a d := by
  constructor <;> (simp only [put0, put1]; split <;> rfl)

theorem answered_answered (L : Lg) (i : Nat) (v u : Int) : (L.answered i v).answered i u = L.answered i u := by simp [Lg.answered]

theorem ans_answered {L : Lg} {i : Nat} {v : Int} (h : i < L.ans.length) : (L.answered i v).ans[i]? = some v := by simp [Lg.answered, h]

set_option maxRecDepth 100000 in
set_option maxHeartbeats 3200000 in
theorem took_recv (h : Wm lab w y x m L0 L1 r0 r1 B) (ho : o + c = 1) (hl : Lens (lgOf L0 L1 o)) {q : Pk} (hn : n = (i : Int) + 1) (hq : (lgOf L0 L1 o).sent[i]? = some q) (hb : (lgOf L0 L1 o).pend[i]? = some true) (hv : (lgOf L0 L1 o).ans[i]? = some 0) (hall : ∀ j, j + 1 = i → ∃ v, (lgOf L0 L1 o).ans[j]? = some v ∧ v ≠ 0) :
    Calls Try.prog 12 #[.pointer (some ⟨y, 0, none⟩), .int .i64 c, stepAgg 4 n p, .int .u64 seq] w fun e w' => e = .returned (.bool true) ∧ TookTo lab w y x m B (put0 o L0 ((lgOf L0 L1 o).answered i (if goodTo q then 1 else 2))) (put1 o L1 ((lgOf L0 L1 o).answered i (if goodTo q then 1 else 2))) w' := by
  have hc : o < 2 := by omega
  obtain ⟨gv, egv⟩ : ∃ gv : Int, gv = if goodTo q then 1 else 2 := ⟨_, rfl⟩
  rw [← egv]
  have HG : Hid (gv = if goodTo q then 1 else 2) := egv
  clear egv
  obtain ⟨w1, hw1⟩ : ∃ w1 : World, w1 = w.alloc (.cells (stepArr 4 n p) tStep) := ⟨_, rfl⟩
  have g1 : w.grownBy w1 none := by rw [hw1]; exact World.grownBy_alloc _ _ _
  have hX1 : w1.heap[w.heap.size]? = some (.cells (stepArr 4 n p) tStep (0, 0)) := by rw [hw1]; exact heap_alloc_new w _
  obtain ⟨x0, x1, x2, x3, x4, x5, x6, x7, x8, xf⟩ := blk9c hX1
  have hzl : w.heap.size < w1.heap.size := blk_lt hX1
  obtain ⟨N, gs, cs, ga, ca, gp, cp, hN, hgs, hga, hgp, S⟩ := (h.grown g1).see hc hl hv hb
  have hprev : Hid (∀ j, j + 1 = i → ∃ v, w1.cell? ⟨ga, j, none⟩ = some (.int .i64 v) ∧ v ≠ 0) := by
    intro j hj
    obtain ⟨v, e1, e2⟩ := hall j hj
    have hp := ((h.grown g1).lg hc).a
    simp only [Lg.va, hga] at hp
    exact ⟨v, one_at (enc := Value.int .i64) hp e1, e2⟩
  obtain ⟨ys, ya, yp, _, yf, va, vaf, vp, vpf, hlt, hle⟩ := S
  have hT := set_ans (i := i) (h.grown g1) hc hga 1
  obtain ⟨w2, hw2⟩ : ∃ w2, w2 = w1.setCell ⟨ga, i, none⟩ (.int .i64 1) := ⟨_, rfl⟩
  rw [← hw2] at hT
  have HT : Hid (Wm lab w2 y x m (put0 o L0 ((lgOf L0 L1 o).answered i 1)) (put1 o L1 ((lgOf L0 L1 o).answered i 1)) r0 r1 B ∧ StepW lab lab w w2) := ⟨hT.1, (StepW.ofG g1 (fun _ _ => rfl)).trans hT.2⟩
  have H2 := hT.1
  clear hT
  have hcz : (c : Int) < 2 := by omega
  have hc0 : (0 : Int) ≤ (c : Int) := by omega
  have hoz : (o : Int) < 2 := by omega
  have ho0 : (0 : Int) ≤ (o : Int) := by omega
  have woc : IntKind.i64.wrap (1 - (c : Int)) = (o : Int) := by rw [show (1 : Int) - (c : Int) = (o : Int) by omega]; exact wrap_i (by omega)
  have wn1 : IntKind.i64.wrap n = n := by rw [hn]; exact_mod_cast wrap_i (n := i + 1) (by omega)
  have wn2 : IntKind.i64.wrap (n - 1) = (i : Int) := by rw [hn]; have := wrap_i (n := i) (by omega); simpa using this
  have hi0 : ¬ (i : Int) < 0 := by omega
  have hiN : (i : Int) < (N : Int) := by omega
  have hiN2 : ¬ (N : Int) ≤ (i : Int) := by omega
  have HH : Hid (o + c = 1 ∧ (lgOf L0 L1 o).sent[i]? = some q ∧ N = (lgOf L0 L1 o).sent.length) := ⟨ho, hq, hN⟩
  have HV : Hid ((lgOf L0 L1 o).ans[i]? = some 0 ∧ (lgOf L0 L1 o).pend[i]? = some true) := ⟨hv, hb⟩
  have Hgs : Hid ((atOf r0 r1 o).s = some ⟨gs, 0, none⟩ ∧ (atOf r0 r1 o).a = some ⟨ga, 0, none⟩ ∧ Lens (lgOf L0 L1 o)) := ⟨hgs, hga, hl⟩
  clear hn hN h hall hv hb hq hgs hga hgp hl
  go_enter Try.func12, Try.ntmps12
  go_upto_region 1 with fail
  rw [← hw1]
  clear hw1
  go_upto_region 14 with fail
  go_cut [138] from 85 (fun s wx => s = .bool false ∧ wx = w1)
  case first =>
    by_cases hi : i = 0
    · have hgt : ¬ (0 : Int) < (i : Int) := by omega
      clear hi
      go_wp2_with fail
      go_meet
      case rel => exact ⟨rfl, rfl⟩
    · obtain ⟨j, hj⟩ : ∃ j, j + 1 = i := ⟨i - 1, by omega⟩
      obtain ⟨u, cu, hu⟩ := hprev.out j hj
      have hgt : (0 : Int) < (i : Int) := by omega
      have hjN : (j : Int) < (N : Int) := by omega
      have wj : IntKind.i64.wrap ((i : Int) - 1) = (j : Int) := by rw [show (i : Int) - 1 = (j : Int) by omega]; exact wrap_i (by omega)
      have HJ : Hid (j + 1 = i) := hj
      clear hi hj
      go_wp2_with fail
      go_meet
      case rel => exact ⟨by simp [hu], rfl⟩
  case rest =>
    obtain ⟨rfl, hwc⟩ := hcut
    subst hwc
    go_upto_region 17 with fail
    rw [← hw2]
    clear hw2 ys ya yp yf va vaf vp vpf x0 x1 x2 x3 x4 x5 x6 x7 x8 xf
    have hl2 : Lens (lgOf (put0 o L0 ((lgOf L0 L1 o).answered i 1)) (put1 o L1 ((lgOf L0 L1 o).answered i 1)) o) := by
      rw [lgOf_put hc]
      exact ⟨by simp [Lg.answered]; exact Hgs.out.2.2.a, Hgs.out.2.2.p, Hgs.out.2.2.s⟩
    have hv2 : (lgOf (put0 o L0 ((lgOf L0 L1 o).answered i 1)) (put1 o L1 ((lgOf L0 L1 o).answered i 1)) o).ans[i]? = some 1 := by
      rw [lgOf_put hc]
      exact ans_answered (lt_of_some HV.out.1)
    have hb2 : (lgOf (put0 o L0 ((lgOf L0 L1 o).answered i 1)) (put1 o L1 ((lgOf L0 L1 o).answered i 1)) o).pend[i]? = some true := by
      rw [lgOf_put hc]
      exact HV.out.2
    obtain ⟨N2, gs2, cs2, ga2, ca2, gp2, cp2, hN2, hgs2, hga2, _, S2⟩ := H2.see hc hl2 hv2 hb2
    have e1 : gs2 = gs := by rw [Hgs.out.1] at hgs2; simpa using hgs2.symm
    have e2 : ga2 = ga := by rw [Hgs.out.2.1] at hga2; simpa using hga2.symm
    subst e1 e2
    have hrow := (H2.lg hc).s
    rw [lgOf_put hc] at hrow hN2
    have hN3 : N2 = N := by rw [hN2, HH.out.2.2]; rfl
    subst hN3
    simp only [Lg.vs, Hgs.out.1] at hrow
    obtain ⟨p0, p1, p2, p3, p4, p5, p6⟩ := pk_at hrow HH.out.2.1
    have pf : ∀ k, w2.frozen? ⟨gs2, k, none⟩ = false := fun k => hrow.frozenAt k
    obtain ⟨ys, ya, yp, _, yf, va, vaf, vp, vpf, _, _⟩ := S2
    obtain ⟨w3, hw3⟩ : ∃ w3 : World, w3 = w2.alloc (.cells q.arr 43) := ⟨_, rfl⟩
    have g3 : w2.grownBy w3 none := by rw [hw3]; exact World.grownBy_alloc _ _ _
    have hZ : w3.heap[w2.heap.size]? = some (.cells q.arr 43 (0, 0)) := by rw [hw3]; exact heap_alloc_new w2 _
    have H3 := H2.grown g3
    go_upto_region 18 with fail
    rw [← hw3]
    clear hw3 ys ya yp yf va vaf vp vpf p0 p1 p2 p3 p4 p5 p6 pf
    obtain ⟨z0, z1, z2, z3, z4, z5, z6, zf⟩ := blk7 hZ
    obtain ⟨_, gs3, _, ga3, _, _, _, hN4, hgs3, hga3, _, S3⟩ := H3.see hc hl2 hv2 hb2
    have e2 : ga3 = ga2 := by rw [Hgs.out.2.1] at hga3; simpa using hga3.symm
    subst e2
    rw [lgOf_put hc] at hN4
    have hN5 := hN4.trans hN2.symm
    subst hN5
    obtain ⟨ys, ya, yp, _, yf, va, vaf, vp, vpf, _, _⟩ := S3
    have st3 : StepW lab lab w w3 := HT.out.2.trans (StepW.ofG g3 (fun _ _ => rfl))
    have hT4 := set_ans (i := i) H3 hc hga3 2
    rw [lgOf_put hc, answered_answered, put_put.1, put_put.2] at hT4
    by_cases hd0 : q.dst < 0
    · have hg : goodTo q = false := by simp [goodTo]; omega
      have e5 : gv = 2 := by rw [HG.out, hg]; rfl
      clear hg
      go_wp2_with fail
      go_ret
      try rw [e5]
      exact ⟨rfl, TookTo.mk hT4.1 (st3.trans hT4.2)⟩
    · by_cases hd2 : 2 < q.dst
      · have hg : goodTo q = false := by simp [goodTo]; omega
        have e5 : gv = 2 := by rw [HG.out, hg]; rfl
        clear hg
        go_wp2_with fail
        go_ret
        try rw [e5]
        exact ⟨rfl, TookTo.mk hT4.1 (st3.trans hT4.2)⟩
      · have hg : goodTo q = true := by simp [goodTo]; omega
        have e5 : gv = 1 := by rw [HG.out, hg]; rfl
        clear hg
        go_wp2_with fail
        go_ret
        try rw [e5]
        exact ⟨rfl, TookTo.mk H3 st3⟩

end

end Go.Proofs.Ytmfdhcnnhlchbaa
