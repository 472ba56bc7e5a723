import Derived.Test.YtmfdhcnnhlchbaaGreatC22
import Derived.Test.YtmfdhcnnhlchbaaGreatC23
import Derived.Test.YtmfdhcnnhlchbaaGreatC24
import Derived.Test.YtmfdhcnnhlchbaaGreatC26
import Derived.Test.YtmfdhcnnhlchbaaGreatC25
import Derived.Sort.Walk13a
import Derived.Deep.Cut
import Derived.Test.YtmfdhcnnhlchbaaGreatC20
import Derived.RangeFuncNested
import Derived.RangeFuncBound
import Derived.RangeFuncCalls
import Derived.RangeFuncLeaves
import Derived.RangeFuncBox
import Derived.Sort.MapsRangeIn
import Derived.Sort.KeysCollected
import Derived.Maps.AppendAt
import Derived.Shelf.Abstract
import Derived.WalkKit
import Derived.OwnWalkIn
import Derived.TacticsInMore
import Derived.RegionIn
import Derived.LoopNIn
import Derived.LoopIn
namespace Go.Proofs.YtmfdhcnnhlchbaaGreat
open Go.RowKit Go.Sort

/-- The row holds d; all else of the old heap is as it was, new blocks may lie behind it. -/
structure Put (w : World) (g o N : Nat) (d : Array Int) (w' : World) : Prop where
  row : RowAt w' g o N d
  by_ : w.grownBy w' (some g)

theorem Put.start {w : World} {g o N : Nat} {d : Array Int} (h : RowAt w g o N d) : Put w g o N d w := ⟨h, grown_refl w _⟩
theorem Put.sorted {w w1 w2 : World} {g o N : Nat} {d d' : Array Int} (h : Put w g o N d w1) (s : Sorted w1 g o N d' w2) : Put w g o N d' w2 := ⟨s.row, grown_trans h.by_ s.by_ (fun _ e => .inl e)⟩
theorem Put.put {w w1 w2 : World} {g o N : Nat} {d d' : Array Int} (h : Put w g o N d w1) (s : Put w1 g o N d' w2) : Put w g o N d' w2 := ⟨s.row, grown_trans h.by_ s.by_ (fun _ e => .inl e)⟩
theorem Put.same {w w1 w2 : World} {g o N : Nat} {d : Array Int} (h : Put w g o N d w1) (s : w1.grownBy w2 none) : Put w g o N d w2 := ⟨h.row.keep (s.block g h.row.lt (by simp)), grown_trans h.by_ s (by simp)⟩
theorem Put.drewN {w w1 : World} {g o N : Nat} {d : Array Int} (h : Put w g o N d w1) (q : Nat) : Put w g o N d (w1.drewN q) := ⟨h.row.heap (drewN_heap _ _), grown_drewN h.by_ q⟩

theorem hintN_two {h : Hint} (e : hintN h = 2) : h = .decreasing := by cases h <;> simp [hintN] at e ⊢

theorem swo_int : SWO ltInt where
  irrefl x := by simp [ltInt]
  trans x y z h1 h2 := by simp [ltInt] at *; omega
  ntrans x y z h1 h2 := by simp [ltInt] at *; omega

theorem bal_is {x y p q : Nat} (h1 : q ≤ p) (h2 : y ≤ x) : decide (((x : Int) - (y : Int)) / 8 ≤ (p : Int) - (q : Int)) = decide (p - q ≥ (x - y) / 8) :=
  decide_eq_decide.2 ⟨fun h => by omega, fun h => by omega⟩

set_option maxHeartbeats 16000000 in
set_option maxRecDepth 1000000 in
/-- slices.pdqsortOrdered. -/
theorem pdq_is : ∀ (M : Nat) (w : World) (g o N cap a b limit n : Nat) (d : Array Int), b - a < M → d.size = n → RowAt w g o N d → a ≤ b → b ≤ n → n < 16777216 → limit < 1099511627776 → Below ltInt a b d →
    Calls Tryz.prog 95 #[.slice (some ⟨g, o, none⟩) n cap, .int .i64 a, .int .i64 b, .int .i64 limit] w fun e w' => e = .returned (.tuple #[]) ∧ Put w g o N (pdq ltInt d a b limit true true) w' := by
  intro M
  induction M with
  | zero => intro _ _ _ _ _ _ _ _ _ _ h; exact absurd h (Nat.not_lt_zero _)
  | succ M ih =>
    intro w g o N cap a b limit n d hM hn h hab hb hs hlimit hBel0
    have HS : Hid (RowAt w g o N d) := h
    have HND : Hid (d.size = n) := hn
    clear h hn
    go_enter Tryz.func95, Tryz.ntmps95
    go_wp2
    go_loopg [1, 2, 3, 8, 9] (b - a) (fun k s1 s2 s3 s8 s9 wr => ∃ (a' b' lim : Nat) (wb wp : Bool) (dk : Array Int), s1 = .int .i64 a' ∧ s2 = .int .i64 b' ∧ s3 = .int .i64 lim ∧ s8 = .bool wb ∧ s9 = .bool wp ∧
      a' ≤ b' ∧ b' ≤ n ∧ b' - a' ≤ k ∧ k ≤ b - a ∧ lim ≤ limit ∧ dk.size = n ∧ Below ltInt a' b' dk ∧ Put w g o N dk wr ∧ pdq ltInt dk a' b' lim wb wp = pdq ltInt d a b limit true true)
    case atStart => exact ⟨a, b, limit, true, true, d, rfl, rfl, rfl, rfl, rfl, hab, hb, Nat.le_refl _, Nat.le_refl _, Nat.le_refl _, HND.out, hBel0, Put.start HS.out, rfl⟩
    case round =>
      obtain ⟨a', b', lim, wb, wp, dk, rfl, rfl, rfl, rfl, rfl, hab', hb', hk, hkM, hlim, hds, hBel, hAt, heq⟩ := hrel
      have HA : Hid (pdq ltInt dk a' b' lim wb wp = pdq ltInt d a b limit true true) := heq
      have HK : Hid (Put w g o N dk wr) := hAt
      have HD : Hid (dk.size = n) := hds
      clear heq hAt hds
      by_cases h12 : b' - a' ≤ 12
      · have h12z : (b' : Int) - (a' : Int) ≤ 12 := by omega
        have hc := insertion_is (cap := cap) HK.out.row hab' (by have := HD.out; omega) (by have := HD.out; omega)
        rw [HD.out] at hc
        go_wp2_with (go_at_call 97; refine hc.mono ?_; rintro e w1 ⟨rfl, hw1⟩)
        (try simp only [Exit.inBlock, Exit.then])
        refine bodyPost_ret (results_none rfl _ _ _) rfl ?_
        refine ⟨rfl, ?_⟩
        rw [← HA.out, pdq_small h12]
        exact HK.out.sorted hw1
      · have h12z : ¬ ((b' : Int) - (a' : Int) ≤ 12) := by omega
        by_cases hl0 : lim = 0
        · subst hl0
          have hc := heap_is (cap := cap) HK.out.row hab' (by have := HD.out; omega) (by have := HD.out; omega)
          rw [HD.out] at hc
          go_wp2_with (go_at_call 98; refine hc.mono ?_; rintro e w1 ⟨rfl, hw1⟩)
          (try simp only [Exit.inBlock, Exit.then])
          refine bodyPost_ret (results_none rfl _ _ _) rfl ?_
          refine ⟨rfl, ?_⟩
          rw [← HA.out, pdq_heap h12 rfl]
          exact HK.out.sorted hw1
        · have hl0z : ¬ ((lim : Int) = 0) := by omega
          obtain ⟨s1, B1, hc1, s2, B2, hpv, s3, B3⟩ := rd_facts (limit := lim) (wb := wb) (wp := wp) swo_int partialInsertionSort_holds reverseRange_holds (show a' < b' by omega) (show b' ≤ dk.size by have := HD.out; omega) hBel
          have S1 : Hid ((rd ltInt dk a' b' lim wb wp).d1.size = n) := s1.trans HD.out
          have S2 : Hid ((rd ltInt dk a' b' lim wb wp).d2.size = n) := s2.trans HD.out
          have S3 : Hid ((rd ltInt dk a' b' lim wb wp).pi.1.size = n) := s3.trans HD.out
          clear s1 s2 s3
          go_upto_if 35 with fail
          go_cut [3] from 19 (fun s3 wc => s3 = .int .i64 (rd ltInt dk a' b' lim wb wp).lim ∧ Put w g o N (rd ltInt dk a' b' lim wb wp).d1 wc)
          case first =>
            cases wb
            · have hc := break_is (cap := cap) HD.out HK.out.row hab' hb' hs
              go_wp2_with (go_at_call 99; refine hc.mono ?_; rintro e w1 ⟨rfl, hw1⟩)
              go_meet
              case rel =>
                refine ⟨?_, HK.out.put ⟨hw1.1, hw1.2⟩⟩
                show Value.int .i64 ((lim : Int) - 1) = Value.int .i64 ((lim - 1 : Nat) : Int)
                congr 1
                omega
            · go_wp2_with fail
              go_meet
              case rel => exact ⟨rfl, HK.out⟩
          case rest =>
            obtain ⟨rfl, hAt1⟩ := hcut
            have K1 : Hid (Put w g o N (rd ltInt dk a' b' lim wb wp).d1 wc) := hAt1
            clear hAt1
            have hc17 : Calls Tryz.prog 100 #[.slice (some ⟨g, o, none⟩) n cap, .int .i64 a', .int .i64 b'] wc fun e w' => e = .returned (.tuple #[.int .i64 (rd ltInt dk a' b' lim wb wp).c.1, .int .i64 (hintN (rd ltInt dk a' b' lim wb wp).c.2)]) ∧ wc.grownBy w' none :=
              choose_is S1.out K1.out.row (by omega) hb' (by omega)
            go_upto_if 50 with (go_at_call 100; refine hc17.mono ?_; rintro e w2 ⟨rfl, hw2⟩)
            have K2 : Hid (Put w g o N (rd ltInt dk a' b' lim wb wp).d1 w2) := K1.out.same hw2
            clear hc17
            go_cut [11, 12] from 19 (fun s11 s12 wc => s11 = .int .i64 (rd ltInt dk a' b' lim wb wp).pivot ∧ s12 = .int .i64 (hintN (rd ltInt dk a' b' lim wb wp).hint) ∧ Put w g o N (rd ltInt dk a' b' lim wb wp).d2 wc)
            case first =>
              by_cases hh : (rd ltInt dk a' b' lim wb wp).c.2 = .decreasing
              · have hcode : hintN (rd ltInt dk a' b' lim wb wp).c.2 = 2 := by rw [hh]; rfl
                obtain ⟨e2, epv, eht⟩ := rd_dec hh
                have hc18 := reverse_is (cap := cap) S1.out K2.out.row (show a' < b' by omega) hb' (by omega)
                go_wp2_with (go_at_call 101; refine hc18.mono ?_; rintro e w3 ⟨rfl, hw3⟩)
                go_meet
                case rel =>
                  refine ⟨?_, by rw [eht]; rfl, by rw [e2]; exact K2.out.sorted hw3⟩
                  rw [epv]
                  congr 1
                  omega
              · have hcode : ¬ (hintN (rd ltInt dk a' b' lim wb wp).c.2 = 2) := fun h => hh (hintN_two h)
                obtain ⟨e2, epv, eht⟩ := rd_not hh
                go_wp2_with fail
                go_meet
                case rel => exact ⟨by rw [epv], by rw [eht], by rw [e2]; exact K2.out⟩
            case rest =>
              obtain ⟨rfl, rfl, hAt3⟩ := hcut
              have K3 : Hid (Put w g o N (rd ltInt dk a' b' lim wb wp).d2 wc) := hAt3
              clear hAt3
              go_upto_region 15 with fail
              go_cut [12, 68] from 19 (fun s12 s68 wx => s12 = .int .i64 (hintN (rd ltInt dk a' b' lim wb wp).hint) ∧ s68 = .bool (wb && wp && decide ((rd ltInt dk a' b' lim wb wp).hint = .increasing)) ∧ wx = wc)
              case first =>
                cases wb <;> cases wp <;> cases hh3 : (rd ltInt dk a' b' lim _ _).hint <;>
                  (have hcode3 := congrArg hintN hh3
                   simp only [hintN] at hcode3
                   go_wp2_with fail
                   go_meet
                   exact ⟨by simp [hh3, hintN], by simp [hh3, hintN], rfl⟩)
              case rest =>
                obtain ⟨rfl, rfl, rfl⟩ := hcut
                go_upto_if 68 with fail
                go_cut [] from 19 (fun wx => (rd ltInt dk a' b' lim wb wp).pi.2 = false ∧ Put w g o N (rd ltInt dk a' b' lim wb wp).pi.1 wx)
                case first =>
                  cases h68 : (wb && wp && decide ((rd ltInt dk a' b' lim wb wp).hint = .increasing))
                  · have epi := rd_pi_no h68
                    go_wp2_with fail
                    go_meet
                    case rel => exact ⟨by rw [epi], by rw [epi]; exact K3.out⟩
                  · have epi := rd_pi_yes h68
                    have hc19 := partIns_is (cap := cap) S2.out K3.out.row (show a' < b' by omega) hb' (by omega)
                    rw [← epi] at hc19
                    go_wp2_with (go_at_call 102; refine hc19.mono ?_; rintro e w4 ⟨rfl, hw4⟩)
                    all_goals first
                      | (have hp2 : (rd ltInt dk a' b' lim wb wp).pi.2 = false := by rw [epi]; assumption
                         go_meet
                         exact ⟨hp2, K3.out.sorted hw4⟩)
                      | (have hp2 : (rd ltInt dk a' b' lim wb wp).pi.2 = true := by rw [epi]; assumption
                         (try simp only [Exit.inBlock, Exit.then])
                         refine bodyPost_ret (results_none rfl _ _ _) rfl ?_
                         refine ⟨rfl, ?_⟩
                         rw [← HA.out, pdq_done h12 hl0 hp2]
                         exact K3.out.sorted hw4)
                case rest =>
                  obtain ⟨hp2, hAt5⟩ := hcut
                  have K5 : Hid (Put w g o N (rd ltInt dk a' b' lim wb wp).pi.1 wc) := hAt5
                  clear hAt5
                  have hcw : ∀ t, t < n → wc.cell? ⟨g, o + t, none⟩ = some (.int .u64 (rd ltInt dk a' b' lim wb wp).pi.1[t]!) := fun t ht => K5.out.row.cell t (by rw [S3.out]; exact ht)
                  have hfw : ∀ t, t < n → wc.frozen? ⟨g, o + t, none⟩ = false := fun t ht => K5.out.row.free t (by rw [S3.out]; exact ht)
                  go_upto_region 17 with fail
                  go_cut [87] from 19 (fun s87 wx => s87 = .bool (decide (a' > 0) && !ltInt (rd ltInt dk a' b' lim wb wp).pi.1[a' - 1]! (rd ltInt dk a' b' lim wb wp).pi.1[(rd ltInt dk a' b' lim wb wp).pivot]!) ∧ Put w g o N (rd ltInt dk a' b' lim wb wp).pi.1 wx)
                  case first =>
                    rcases Nat.eq_zero_or_pos a' with ha0 | ha0
                    · have ha0z : decide ((a' : Int) > 0) = false := decide_eq_false (by omega)
                      go_big_quiet (first | (go_at_call 103; refine Calls.quiet_of_same (less_is _ _ _)))
                      go_wp2_with fail
                      go_meet
                      case rel => exact ⟨by simp [ha0], K5.out.drewN nq⟩
                    · have ha0z : (a' : Int) > 0 := by omega
                      go_big_quiet (first | (go_at_call 103; refine Calls.quiet_of_same (less_is _ _ _)))
                      go_wp2_with fail
                      go_meet
                      case rel => exact ⟨by simp [ha0], K5.out.drewN nq⟩
                  case rest =>
                    obtain ⟨rfl, hAt6⟩ := hcut
                    have K6 : Hid (Put w g o N (rd ltInt dk a' b' lim wb wp).pi.1 wc) := hAt6
                    clear hcw hfw hAt6
                    cases h87 : (decide (a' > 0) && !ltInt (rd ltInt dk a' b' lim wb wp).pi.1[a' - 1]! (rd ltInt dk a' b' lim wb wp).pi.1[(rd ltInt dk a' b' lim wb wp).pivot]!)
                    · obtain ⟨mid, ap, d4, hx⟩ : ∃ mid ap d4, partition ltInt (rd ltInt dk a' b' lim wb wp).pi.1 a' b' (rd ltInt dk a' b' lim wb wp).pivot = (mid, ap, d4) := ⟨_, _, _, rfl⟩
                      obtain ⟨r1, r2, r3, r4, r5, r6, r7⟩ := round_part swo_int (partition_holds ltInt) hpv.1 hpv.2 (show b' ≤ (rd ltInt dk a' b' lim wb wp).pi.1.size by rw [S3.out]; exact hb') B3 hx
                      have hc22 := part_is (cap := cap) S3.out K6.out.row hpv.1 hpv.2 hb' (by omega)
                      rw [hx] at hc22
                      have X : Hid (partition ltInt (rd ltInt dk a' b' lim wb wp).pi.1 a' b' (rd ltInt dk a' b' lim wb wp).pivot = (mid, ap, d4)) := hx
                      have S4 : Hid (d4.size = n) := r3.trans S3.out
                      clear hx r3
                      go_upto_if 113 with (go_at_call 105; refine hc22.mono ?_; rintro e w7 ⟨rfl, hw7⟩)
                      have K7 : Hid (Put w g o N d4 w7) := K6.out.sorted hw7
                      clear hw7
                      by_cases h4 : mid - a' < b' - mid
                      · have h4z : (mid : Int) - (a' : Int) < (b' : Int) - (mid : Int) := by omega
                        have hih := ih w7 g o N cap a' mid (rd ltInt dk a' b' lim wb wp).lim n d4 (by omega) S4.out K7.out.row (by omega) (by omega) hs (Nat.lt_of_le_of_lt (Nat.le_trans rd_lim_le hlim) hlimit) r4
                        obtain ⟨pL, sL⟩ := pdq_sorts ltInt swo_int d4 a' mid (rd ltInt dk a' b' lim wb wp).lim true true (by omega) (by have := S4.out; omega) r4
                        have PL : Hid ((pdq ltInt d4 a' mid (rd ltInt dk a' b' lim wb wp).lim true true).size = n) := pL.1.trans S4.out
                        have BL := (r6 _ pL sL).1
                        clear pL sL r6 r7
                        go_wp2_with (go_at_call 95; refine hih.mono ?_; rintro e w8 ⟨rfl, hw8⟩)
                        go_roundg (b' - (mid + 1))
                        case measure => omega
                        case rel =>
                          refine ⟨mid + 1, b', (rd ltInt dk a' b' lim wb wp).lim, decide (mid - a' ≥ (b' - a') / 8), ap, pdq ltInt d4 a' mid (rd ltInt dk a' b' lim wb wp).lim true true, by simp, rfl, rfl, ?_, rfl, by omega, by omega, Nat.le_refl _, by omega, Nat.le_trans rd_lim_le hlim, PL.out, BL, K7.out.put hw8, ?_⟩
                          · exact congrArg Value.bool (bal_is (by omega) (by omega))
                          · rw [← HA.out, pdq_left h12 hl0 hp2 h87 (by rw [X.out]; exact ⟨r1, r2⟩) (by rw [X.out]; exact h4), X.out]
                      · have h4z : ¬ ((mid : Int) - (a' : Int) < (b' : Int) - (mid : Int)) := by omega
                        have hih := ih w7 g o N cap (mid + 1) b' (rd ltInt dk a' b' lim wb wp).lim n d4 (by omega) S4.out K7.out.row (by omega) hb' hs (Nat.lt_of_le_of_lt (Nat.le_trans rd_lim_le hlim) hlimit) r5
                        obtain ⟨pL, sL⟩ := pdq_sorts ltInt swo_int d4 (mid + 1) b' (rd ltInt dk a' b' lim wb wp).lim true true (by omega) (by have := S4.out; omega) r5
                        have PL : Hid ((pdq ltInt d4 (mid + 1) b' (rd ltInt dk a' b' lim wb wp).lim true true).size = n) := pL.1.trans S4.out
                        have BL := (r7 _ pL sL).1
                        clear pL sL r6 r7
                        go_wp2_with (go_at_call 95; refine hih.mono ?_; rintro e w8 ⟨rfl, hw8⟩)
                        go_roundg (mid - a')
                        case measure => omega
                        case rel =>
                          refine ⟨a', mid, (rd ltInt dk a' b' lim wb wp).lim, decide (b' - mid ≥ (b' - a') / 8), ap, pdq ltInt d4 (mid + 1) b' (rd ltInt dk a' b' lim wb wp).lim true true, rfl, rfl, rfl, ?_, rfl, by omega, by omega, Nat.le_refl _, by omega, Nat.le_trans rd_lim_le hlim, PL.out, BL, K7.out.put hw8, ?_⟩
                          · exact congrArg Value.bool (bal_is (by omega) (by omega))
                          · rw [← HA.out, pdq_right h12 hl0 hp2 h87 (by rw [X.out]; exact ⟨r1, r2⟩) (by rw [X.out]; exact h4), X.out]
                    · have h87' := h87
                      simp only [Bool.and_eq_true, decide_eq_true_eq, Bool.not_eq_true'] at h87'
                      obtain ⟨mid, d4, hx⟩ : ∃ mid d4, partitionEqual ltInt (rd ltInt dk a' b' lim wb wp).pi.1 a' b' (rd ltInt dk a' b' lim wb wp).pivot = (mid, d4) := ⟨_, _, rfl⟩
                      obtain ⟨r1, r2, r3, r4, _⟩ := round_eq swo_int (partitionEqual_holds ltInt) h87'.1 hpv.1 hpv.2 (show b' ≤ (rd ltInt dk a' b' lim wb wp).pi.1.size by rw [S3.out]; exact hb') B3 h87'.2 hx
                      have hc21 := partEq_is (cap := cap) S3.out K6.out.row hpv.1 hpv.2 hb' (by omega)
                      rw [hx] at hc21
                      have X : Hid (partitionEqual ltInt (rd ltInt dk a' b' lim wb wp).pi.1 a' b' (rd ltInt dk a' b' lim wb wp).pivot = (mid, d4)) := hx
                      have S4 : Hid (d4.size = n) := r3.trans S3.out
                      clear hx r3
                      go_wp2_with (go_at_call 104; refine hc21.mono ?_; rintro e w7 ⟨rfl, hw7⟩)
                      go_roundg (b' - mid)
                      case measure => omega
                      case rel =>
                        exact ⟨mid, b', (rd ltInt dk a' b' lim wb wp).lim, wb, wp, d4, rfl, rfl, rfl, rfl, rfl, r2, hb', Nat.le_refl _, by omega, Nat.le_trans rd_lim_le hlim, S4.out, r4, K6.out.sorted hw7, by rw [← HA.out, pdq_eq h12 hl0 hp2 h87 (by rw [X.out]; exact ⟨r1, r2⟩), X.out]⟩

end Go.Proofs.YtmfdhcnnhlchbaaGreat

namespace Go.Proofs.YtmfdhcnnhlchbaaGreat
open Go.RowKit Go.Maps Go.Sort Go.Shelf

attribute [local go_sem] Oper.semAt_some

theorem keyOf_u64 {key : Value} {kl : Lit} (h : keyOf Tryz.prog tU64 key = some kl) : ∃ x : Int, key = encU x ∧ kl = .int .u64 x ∧ (Lit.int .u64 x).wf = true := by
  cases key <;> simp [keyOf, Tryz.underlying26, mapKey] at h
  rename_i q a
  obtain ⟨⟨rfl, hw⟩, rfl⟩ := h
  exact ⟨a, rfl, rfl, hw⟩

/-- No number twice; a number has come just where the map has it and it is not still to come. -/
def Come (D : DataW Value) (left : Lit → Bool) (ss : List Int) : Prop := ss.Nodup ∧ ∀ x, x ∈ ss ↔ (has D (.int .u64 x) = true ∧ left (.int .u64 x) = false)

theorem come_start (D : DataW Value) : Come D (has D) [] := ⟨List.nodup_nil, fun x => by cases has D (.int .u64 x) <;> simp⟩

theorem come_step {D : DataW Value} {left : Lit → Bool} {ss : List Int} (h : Come D left ss) {x : Int} {y : DataW Value} (hlk : left (.int .u64 x) = true) (hat : ∀ zd, D.atKey (.int .u64 x) zd = y) : Come D (fun z => left z && !z.sameKey (.int .u64 x)) (ss ++ [x]) := by
  have hnew : x ∉ ss := fun hx => by have := ((h.2 x).1 hx).2; rw [hlk] at this; cases this
  refine ⟨List.nodup_append.2 ⟨h.1, by simp, ?_⟩, ?_⟩
  · intro a ha b hb
    simp at hb
    subst hb
    intro e
    exact hnew (e ▸ ha)
  · intro y
    by_cases hy : y = x
    · subst hy
      simp [has_true_of_atKey hat, Lit.sameKey]
    · simp [h.2 y, hy, Lit.sameKey]

abbrev fKeys : FuncId := 74

set_option maxRecDepth 100000 in
set_option maxHeartbeats 1000000 in
/-- The iterator of maps.Keys. -/
theorem keys_seq (F : Fence) (n : Nat) (h1 : F.fn 93) (hro : F.round = none) (hn : 1 ≤ n) (l Bm b nn : Nat) (D : DataW Value) (J Jx : List Int → World → Prop)
    (hY : ∀ pre x W, J pre W → pre.length < Maps.size D → YieldAt F (n - 1) Tryz.prog l #[encU x] W fun e W' =>
      (e = .returned (.bool true) ∧ J (pre ++ [x]) W' ∧ KeepsWalks W W') ∨ (e = .returned (.bool false) ∧ Jx (pre ++ [x]) W'))
    (W : World) (hJ : AbidesFrom W.heap.size J) (hm : W.cell? ⟨Bm, 0, none⟩ = some (.map (some b))) (hown : W.ownsMap Tryz.prog tU64 heldR b nn D) (h0 : J [] W) :
    CallsIn F n Tryz.prog 93 #[.func (.yield l) #[] #[], .pointer (some ⟨Bm, 0, none⟩)] W fun e W' => (∃ v, e = .returned v) ∧
      ((∃ ss : List Int, (ss.Nodup ∧ ∀ x, x ∈ ss ↔ has D (.int .u64 x) = true) ∧ J ss W') ∨ (∃ pre : List Int, True ∧ Jx pre W')) := by
  refine callsIn_of_wp Tryz.func93 rfl h1 ?_ hro
  simp only [Tryz.ntmps93, List.size_toArray, List.length_cons, List.length_nil, Nat.reduceAdd, Nat.reduceSub, Array.replicate_succ, Array.replicate_zero, List.push_toArray, List.append_toArray, List.nil_append, List.cons_append]
  gi_wp2_with (first
    | (gi_at_range; refine wpListIn_range_own _ rfl _ 83 rfl 26 28 lawU Tryz.underlying83 _ b nn _ rfl hown ?_; intro w0 hrg0 hg0 hs0)
    | gi_in)
  go_frame
  gi_loopw [3] (fun _ wr => ∃ (left : Lit → Bool) (cnt : Nat) (ss : List Int), wr.ranges Tryz.prog tU64 heldR b W.heap.size nn D left cnt ∧ ss.length + cnt ≤ Maps.size D ∧ Come D left ss ∧ J ss wr)
    (fun _ wr => wr.rangeLeft b W.heap.size)
  case atStart => exact ⟨_, _, [], hrg0, by simp, come_start D, hJ [] W w0 none h0 hg0 (fun r e => by cases e)⟩
  case round =>
    obtain ⟨left, cnt, ss, hrg, hcs, hC, hJs⟩ := hrel
    gi_wp2_with (first
      | (gi_at_next; refine wpListIn_next_ranges _ rfl _ rfl 26 lawU heldR encU id (fun key kl hk => by obtain ⟨x, hx, _⟩ := keyOf_u64 hk; exact ⟨x, hx⟩) (fun v _ _ => ⟨v, rfl⟩) b W.heap.size nn _ _ _ rfl hrg ?_ ?_)
      | gi_in)
    · intro hc0 hl0
      gi_wp2
      go_end0
      exact ⟨⟨_, rfl⟩, .inl ⟨ss, ⟨hC.1, fun x => by rw [hC.2 x, hl0]; simp⟩, hJs⟩⟩
    · intro x c kl yd yp w2 cnt2 hkey hlk hv hat hrg2 hlt hg2 hs2 hen
      obtain ⟨x', ex, rfl, _⟩ := keyOf_u64 hkey
      obtain rfl : x = x' := encU_inj _ _ ex
      have hJ2 : J ss w2 := hJ ss wr w2 (some W.heap.size) hJs hg2 (fun r e => by cases e; exact ⟨Nat.le_refl _, hrg.iter_walk⟩)
      obtain ⟨fn, tmps, assign, body, hy, hR⟩ := hY ss x w2 hJ2 (by omega)
      clear hs2
      gi_wp2
      refine hR.mono ?_
      have hC2 := come_step hC hlk hat
      rintro e W3 (⟨rfl, hJ3, hk3⟩ | ⟨rfl, hJx3⟩)
      · gi_wp2
        have hrg3 := hrg2.of_walks hk3
        go_roundw
        case rel => exact ⟨_, cnt2, ss ++ [x], hrg3, by simp; omega, hC2, hJ3⟩
        case measure => rw [hrg3.left_eq, hrg.left_eq]; exact hlt
      · gi_wp2
        refine bodyPost_ret (results_none rfl _ _ _) rfl ?_
        exact ⟨⟨_, rfl⟩, .inr ⟨ss ++ [x], trivial, hJx3⟩⟩

/-- What maps.Keys has handed back gives the keys. -/
theorem keys_stops (F : Fence) (n : Nat) (h1 : F.fn 93) (hro : F.round = none) (hn : 1 ≤ n) (Bm b nn : Nat) (D : DataW Value) (w : World) (hBm : Bm < w.heap.size)
    (hm : w.cell? ⟨Bm, 0, none⟩ = some (.map (some b))) (hown : w.ownsMap Tryz.prog tU64 heldR b nn D) :
    SeqStopsK F n Tryz.prog 93 #[.pointer (some ⟨Bm, 0, none⟩)] (fun x : Int => #[Value.int .u64 x]) KeepsWalks (fun ss => ss.Nodup ∧ ∀ x, x ∈ ss ↔ has D (.int .u64 x) = true) (fun _ => True) (Maps.size D) w := fun l J Jx W hW hJ _ hY h0 => by
  have hown' : W.ownsMap Tryz.prog tU64 heldR b nn D := by
    have hbl := hown.lt
    obtain ⟨es, clock, hb, Ft, hs, hD⟩ := hown
    exact ⟨es, clock, (hW.block b hbl).trans hb, Ft, hs, hD⟩
  exact keys_seq F n h1 hro hn l Bm b nn D J Jx hY W hJ ((hW.cell (p := ⟨Bm, 0, none⟩) hBm).trans hm) hown' h0

set_option maxHeartbeats 1000000 in
theorem keys_call (F : Fence) (n : Nat) (h : F.fn 74) (hro : F.round = none) (mb : Option Nat) (w : World) :
    CallsIn F n Tryz.prog 74 #[.map mb] w fun e w' => e = .returned (.func (.func 93) #[] #[.pointer (some ⟨w.heap.size, 0, none⟩)]) ∧ w' = w.alloc (.cells #[.map mb] 83) := by
  refine callsIn_of_wp Tryz.func74 rfl h ?_ hro
  simp only [Tryz.ntmps74, List.size_toArray, List.length_cons, List.length_nil, Nat.reduceAdd, Nat.reduceSub, Array.replicate_succ, Array.replicate_zero, List.push_toArray, List.append_toArray, List.nil_append, List.cons_append]
  gi_wp2
  go_ret
  exact ⟨rfl, rfl⟩

end Go.Proofs.YtmfdhcnnhlchbaaGreat

namespace Go.Proofs.YtmfdhcnnhlchbaaGreat
open Go.RowKit Go.Maps Go.Sort Go.Shelf

attribute [local go_sem] Oper.semAt_some

set_option maxRecDepth 100000 in
set_option maxHeartbeats 2000000 in
/-- slices.AppendSeq(nil, seq). -/
theorem appendSeq_in (F : Fence) (n : Nat) (h0 : F.fn 94) (hro : F.round = none) (hn : 2 ≤ n) {g : Nat} {lb : Array Value} (hg : F.fn g) (eg : ∀ args w, (callFunc g args).run Tryz.prog w = .ok (.enter g args) w) {S Sp : List Int → Prop} {N : Nat} (hlen : N ≤ maxLen) (hbytes : N * 8 ≤ 140737488355328) (w : World)
    (hseq : SeqStopsK F (n - 1) Tryz.prog g lb (fun x : Int => #[Value.int .u64 x]) KeepsWalks S Sp N w) :
    CallsIn F n Tryz.prog 94 #[.slice none 0 0, .func (.func g) #[] lb] w fun e W' => ∃ v ss, e = .returned v ∧ S ss ∧ W'.ownsRow w.heap.size tU64 1 v ss.length (ss.map (Value.int .u64)) ∧ (v = .slice none 0 0 ↔ ss = []) ∧ Below w.heap.size w W' := by
  have h1 : 1 ≤ n := by omega
  obtain ⟨i0, hi, hz0, hz1, hz2⟩ := info_parts infoU64
  refine callsIn_of_wp_marks Tryz.func94 rfl h0 ?_ hro
  simp only [Tryz.ntmps94, List.size_toArray, List.length_cons, List.length_nil, Nat.reduceAdd, Nat.reduceSub, Array.replicate_succ, Array.replicate_zero, List.push_toArray, List.append_toArray, List.nil_append, List.cons_append]
  gi_wp2
  have bO := Boxed.new w 81 (.slice none 0 0)
  have hB0 : Below w.heap.size w (w.alloc (.cells #[.slice none 0 0] 81)) := (Below.refl _ w).alloc (Nat.le_refl _) _
  refine wpIn_rangeFunc_ownG hro h1 (gf := g) (lb := lb) rfl hg eg hseq walksK_t walksK_b hB0 (fun _ => rfl)
    (fun pre W => (∃ v, Boxed W w.heap.size 81 v ∧ W.ownsRow w.heap.size tU64 1 v pre.length (pre.map (Value.int .u64)) ∧ (v = .slice none 0 0 ↔ pre = [])) ∧ Below w.heap.size w W)
    (fun _ _ _ => False)
    (OwnFrom.and (Own.from (holdsRow_own w.heap.size w.heap.size 81 tU64 1 (fun pre : List Int => pre.length) (fun pre => pre.map (Value.int .u64)) (fun pre v => v = .slice none 0 0 ↔ pre = [])) _) (ownFrom_below (Nat.le_refl _) (by simp)))
    (fun _ _ _ _ _ hs _ _ => hs)
    ⟨⟨_, bO, World.ownsRow_nil _ _ _ _, by simp⟩, hB0⟩
    (fun x => { tmps := #[.slice none 0 0, .func (.func g) #[] lb, .pointer (some ⟨w.heap.size, 0, none⟩), undef, .slice none 0 0, Value.int .u64 x, .func (.func g) #[] lb, Value.int .u64 x, undef, undef, undef, undef, undef], defers := [] }) ?assign ?body ?done ?stop
  case assign =>
    intro l x W K hK
    gi_wp2
    exact hK
  case body =>
    rintro l pre x W ⟨⟨v, hv, hrow, hnil⟩, hB⟩ hlt
    have hc := hv.cell
    gi_wp2_with (gi_at_builtin; refine wpListIn_append_own _ rfl _ _ 81 rfl w.heap.size 26 i0 (.int .u64 0) 1 8 Tryz.underlying81 hi hz0 hz1 hz2 rfl (by decide) _ _ _ rfl (hrow.alloc _) ⟨W.heap.size, 0, none⟩ 1 1 [.int .u64 x] rfl rfl (cell_one_new _ _ _) (by simp [Value.oneCell']) (by omega) (by omega) (by have := hB.size; simp; omega) ?_; intro v' w1 hown' hgrow _; obtain ⟨g', cap', rfl⟩ := ownsRow_succ hown'; obtain ⟨hv1, hv2, hr2, hk2, hb2⟩ := hv.appended (by decide) hrow hB.size (Nat.le_refl _) hown' hgrow; have hc1 := hv1.cell; have hf1 := hv1.frozen)
    exact ⟨hk2.from _, KeepsOthers.walks hk2, ⟨_, hv2, by simpa using hr2, by simp⟩, hB.trans hb2⟩
  case done =>
    rintro D ys W hD hS ⟨⟨v, hv, hrow, hnil⟩, hB⟩ hK
    have hc := hv.cell
    gi_wp2
    refine ⟨by simp, .inl ⟨_, _, rfl, run_takeDeferred hK, ?_⟩⟩
    exact ⟨_, results_tmp rfl _ _ _, v, ys, rfl, hS, ownsRow_putObj hrow _ hK rfl, hnil, hB.trans (belowK_b (w := w) (Nat.le_refl _) W D _ _ (by simp at hD; omega) hK rfl rfl)⟩
  case stop =>
    rintro D c pre W _ _ h _
    exact h.elim

set_option maxHeartbeats 1000000 in
theorem collect_in (F : Fence) (n : Nat) (h0 : F.fn 91) (h2 : F.fn 94) (hro : F.round = none) (hn : 3 ≤ n) {g : Nat} {lb : Array Value} (hg : F.fn g) (eg : ∀ args w, (callFunc g args).run Tryz.prog w = .ok (.enter g args) w) {S Sp : List Int → Prop} {N : Nat} (hlen : N ≤ maxLen) (hbytes : N * 8 ≤ 140737488355328) (w : World)
    (hseq : SeqStopsK F (n - 1 - 1) Tryz.prog g lb (fun x : Int => #[Value.int .u64 x]) KeepsWalks S Sp N w) :
    CallsIn F n Tryz.prog 91 #[.func (.func g) #[] lb] w fun e W' => ∃ v ss, e = .returned v ∧ S ss ∧ W'.ownsRow w.heap.size tU64 1 v ss.length (ss.map (Value.int .u64)) ∧ (v = .slice none 0 0 ↔ ss = []) ∧ Below w.heap.size w W' := by
  have h1 : 1 ≤ n := by omega
  refine callsIn_of_wp Tryz.func91 rfl h0 ?_ hro
  simp only [Tryz.ntmps91, List.size_toArray, List.length_cons, List.length_nil, Nat.reduceAdd, Nat.reduceSub, Array.replicate_succ, Array.replicate_zero, List.push_toArray, List.append_toArray, List.nil_append, List.cons_append]
  gi_wp2_with (gi_at_call 94; refine (appendSeq_in F (n - 1) h2 hro (by omega) hg eg hlen hbytes _ hseq).mono ?_; rintro e w' ⟨v, ss, rfl, hS, hrow, hnil, hb⟩)
  go_ret
  exact ⟨v, ss, rfl, hS, hrow, hnil, hb⟩

end Go.Proofs.YtmfdhcnnhlchbaaGreat

namespace Go.Proofs.YtmfdhcnnhlchbaaGreat
open Go.RowKit Go.Maps Go.Sort Go.Shelf

set_option maxRecDepth 100000 in
set_option maxHeartbeats 1000000 in
/-- slices.Sort. -/
theorem sort_is {w : World} {g o N cap n : Nat} {d : Array Int} (hn : d.size = n) (h : RowAt w g o N d) (hs : n < 16777216) :
    Calls Tryz.prog 92 #[.slice (some ⟨g, o, none⟩) n cap] w fun e w' => e = .returned (.tuple #[]) ∧ Put w g o N (pdq ltInt d 0 n (bitsLen n) true true) w' := by
  have uu : IntKind.u64.wrap (n : Int) = n := by rw [IntKind.wrap_u64]; omega
  have hl := len_is n hs w
  have hb : bitsLen n < 1099511627776 := by
    have : bitsLen n ≤ n := by
      rcases Nat.eq_zero_or_pos n with e | e
      · subst e; decide
      · have h2 := two_pow_bitsLen_le (n := n) (by omega)
        have : bitsLen n < 2 ^ bitsLen n := Nat.lt_two_pow_self
        rcases Nat.lt_or_ge n (bitsLen n) with e3 | e3
        · have e4 : 2 ^ (n + 1) ≤ 2 ^ bitsLen n := Nat.pow_le_pow_right (by omega) (by omega)
          have e5 : n < 2 ^ n := Nat.lt_two_pow_self
          rw [Nat.pow_succ] at e4
          omega
        · exact e3
    omega
  have hp := pdq_is (n + 1) w g o N cap 0 n (bitsLen n) n d (by omega) hn h (by omega) (by omega) hs hb (.inl rfl)
  generalize bitsLen n = m at hl hp hb
  clear h
  go_enter Tryz.func92, Tryz.ntmps92
  go_wp2_with fail
  refine hl.mono ?_
  rintro e w1 ⟨rfl, rfl⟩
  go_wp2_with fail
  refine hp.mono ?_
  rintro e w2 ⟨rfl, hw2⟩
  go_wp2_with fail
  go_end0
  exact ⟨rfl, hw2⟩

/-- The sorted numbers are the ones that ascend and have the same members. -/
theorem pdq_list {ss ps : List Int} {m : Nat} (hnd : ss.Nodup) (hmem : ∀ x, x ∈ ss ↔ x ∈ ps) (hps : ps.Pairwise (· < ·)) : (pdq ltInt ss.toArray 0 ss.length m true true).toList = ps := by
  obtain ⟨hP, hSo⟩ := pdq_sorts ltInt swo_int ss.toArray 0 ss.length m true true (by omega) (by simp) (.inl rfl)
  have hpd : ps.Nodup := hps.imp (fun h e => by omega)
  have hperm : ps.Perm ss := (List.perm_ext_iff_of_nodup hpd hnd).2 (fun x => (hmem x).symm)
  have hanti : ∀ x y : Int, ltInt x y = false → ltInt y x = false → x = y := fun x y h1 h2 => by simp only [ltInt, decide_eq_false_iff_not] at h1 h2; omega
  have e1 := sorted_unique_holds swo_int hanti ss.toArray _ (by simpa using hP) (by simpa using hSo)
  have hsz : ps.length = ss.length := hperm.length_eq
  have e2 := sorted_unique_holds swo_int hanti ss.toArray ps.toArray (by
    refine ⟨by simpa using hsz, fun i hi => ?_, ?_⟩
    · rcases hi with hi | hi
      · omega
      · have h1 : ss.length ≤ i := by simpa using hi
        rw [getElem!_neg _ _ (by simp; omega), getElem!_neg _ _ (by simp; omega)]
    · have e3 : (ps.toArray.extract 0 ss.toArray.size) = ps.toArray := by
        have : ss.toArray.size = ps.toArray.size := by simp [hsz]
        rw [this]; exact Array.extract_size
      rw [e3, Array.extract_size]
      exact hperm) (by
    intro i j _ hij hj
    have hj' : j < ps.length := by simp at hj; omega
    rw [getElem!_pos ps.toArray j (by simpa using hj'), getElem!_pos ps.toArray i (by simp; omega)]
    have := List.pairwise_iff_getElem.1 hps i j (by omega) hj' hij
    simp [ltInt]
    omega)
  rw [e1, ← e2]

theorem below_grown2 {w w' : World} (h : Below w.heap.size w w') : w.grownBy w' none := ⟨h.os, h.tape, h.output, h.size, fun k hk _ => h.block k hk⟩

theorem row_of {w : World} {base g n cap : Nat} {ss : List Int} (h : w.ownsRow base tU64 1 (.slice (some ⟨g, 0, none⟩) n cap) ss.length (ss.map (Value.int .u64))) : n = ss.length ∧ base ≤ g ∧ n ≤ cap ∧ cap ≤ maxLen ∧ RowAt w g 0 cap ss.toArray := by
  rcases h.2 with ⟨h, _⟩ | ⟨g', cap', cur, e, hb, hg, h1, h2, h3, h4⟩
  · cases h
  · cases e
    refine ⟨rfl, hb, h1, h2, cur, hg, by simpa using h3, by simpa using h1, fun j hj => ?_⟩
    have hj' : j < ss.length := by simpa using hj
    have := congrArg (fun l => l[j]?) h4
    simp only [Nat.mul_one, List.getElem?_take, if_pos hj', List.getElem?_map] at this
    rw [Nat.zero_add, ← Array.getElem?_toList, this, getElem!_pos ss.toArray j hj]
    simp [List.getElem?_eq_getElem hj']

theorem row_to {w : World} {base g cap : Nat} {d : Array Int} (h : RowAt w g 0 cap d) (hb : base ≤ g) (hm : cap ≤ maxLen) : w.ownsRow base tU64 1 (.slice (some ⟨g, 0, none⟩) d.size cap) d.size (d.toList.map (Value.int .u64)) := by
  obtain ⟨cur, h1, h2, h3, h4⟩ := h
  refine ⟨by simp, .inr ⟨g, cap, cur, rfl, hb, h1, by omega, hm, by omega, ?_⟩⟩
  apply List.ext_getElem?
  intro j
  simp only [Nat.mul_one, List.getElem?_take, List.getElem?_map]
  by_cases hj : j < d.size
  · rw [if_pos hj]
    have := h4 j hj
    rw [Nat.zero_add] at this
    rw [Array.getElem?_toList, this, getElem!_pos d j hj]
    simp [hj]
  · rw [if_neg hj, List.getElem?_eq_none (by simp; omega)]
    rfl

end Go.Proofs.YtmfdhcnnhlchbaaGreat
