import Derived.Test.YtmfdhcnnhlchbaaC22
import Derived.Test.YtmfdhcnnhlchbaaC23
import Derived.Test.YtmfdhcnnhlchbaaC24
import Derived.Test.YtmfdhcnnhlchbaaC26
import Derived.Test.YtmfdhcnnhlchbaaC25
import Derived.Sort.Walk13a
import Derived.Deep.Cut
namespace Go.Proofs.Ytmfdhcnnhlchbaa
open Go.RowKit Go.Sort

/-- The row holds d; all else of the old heap is as it was, new blocks may lie behind it. -/
structure Put (w : World) (g o N : Nat) (d : Array Int) (w' : World) : Prop where
  row : RowAt w' g o N d
  by_ : w.grownBy w' (some g)

theorem Put.start {w : World} {g o N : Nat} {d : Array Int} (h : RowAt w g o N d) : Put w g o N d w := ⟨h, grown_refl w _⟩
theorem Put.sorted {w w1 w2 : World} {g o N : Nat} {d d' : Array Int} (h : Put w g o N d w1) (s : Sorted w1 g o N d' w2) : Put w g o N d' w2 := ⟨s.row, grown_trans h.by_ s.by_ (fun _ e => .inl e)⟩
theorem Put.put {w w1 w2 : World} {g o N : Nat} {d d' : Array Int} (h : Put w g o N d w1) (s : Put w1 g o N d' w2) : Put w g o N d' w2 := ⟨s.row, grown_trans h.by_ s.by_ (fun _ e => .inl e)⟩
theorem Put.same {w w1 w2 : World} {g o N : Nat} {d : Array Int} (h : Put w g o N d w1) (s : w1.grownBy w2 none) : Put w g o N d w2 := ⟨h.row.keep (s.block g h.row.lt (by simp)), grown_trans h.by_ s (by simp)⟩
theorem Put.drewN {w w1 : World} {g o N : Nat} {d : Array Int} (h : Put w g o N d w1) (q : Nat) : Put w g o N d (w1.drewN q) := ⟨h.row.heap (drewN_heap _ _), grown_drewN h.by_ q⟩

theorem hintN_two {h : Hint} (e : hintN h = 2) : h = .decreasing := by cases h <;> simp [hintN] at e ⊢

theorem swo_int : SWO ltInt where
  irrefl x := by simp [ltInt]
  trans x y z h1 h2 := by simp [ltInt] at *; omega
  ntrans x y z h1 h2 := by simp [ltInt] at *; omega

theorem bal_is {x y p q : Nat} (h1 : q ≤ p) (h2 : y ≤ x) : decide (((x : Int) - (y : Int)) / 8 ≤ (p : Int) - (q : Int)) = decide (p - q ≥ (x - y) / 8) :=
  decide_eq_decide.2 ⟨fun h => by omega, fun h => by omega⟩

set_option maxHeartbeats 16000000 in
set_option maxRecDepth 1000000 in
/-- slices.pdqsortOrdered. -/
theorem pdq_is : ∀ (M : Nat) (w : World) (g o N cap a b limit n : Nat) (d : Array Int), b - a < M → d.size = n → RowAt w g o N d → a ≤ b → b ≤ n → n < 16777216 → limit < 1099511627776 → Below ltInt a b d →
    Calls Try.prog 56 #[.slice (some ⟨g, o, none⟩) n cap, .int .i64 a, .int .i64 b, .int .i64 limit] w fun e w' => e = .returned (.tuple #[]) ∧ Put w g o N (pdq ltInt d a b limit true true) w' := by
  intro M
  induction M with
  | zero => intro _ _ _ _ _ _ _ _ _ _ h; exact absurd h (Nat.not_lt_zero _)
  | succ M ih =>
    intro w g o N cap a b limit n d hM hn h hab hb hs hlimit hBel0
    have HS : Hid (RowAt w g o N d) := h
    have HND : Hid (d.size = n) := hn
    clear h hn
    go_enter Try.func56, Try.ntmps56
    go_wp2
    go_loopg [1, 2, 3, 8, 9] (b - a) (fun k s1 s2 s3 s8 s9 wr => ∃ (a' b' lim : Nat) (wb wp : Bool) (dk : Array Int), s1 = .int .i64 a' ∧ s2 = .int .i64 b' ∧ s3 = .int .i64 lim ∧ s8 = .bool wb ∧ s9 = .bool wp ∧
      a' ≤ b' ∧ b' ≤ n ∧ b' - a' ≤ k ∧ k ≤ b - a ∧ lim ≤ limit ∧ dk.size = n ∧ Below ltInt a' b' dk ∧ Put w g o N dk wr ∧ pdq ltInt dk a' b' lim wb wp = pdq ltInt d a b limit true true)
    case atStart => exact ⟨a, b, limit, true, true, d, rfl, rfl, rfl, rfl, rfl, hab, hb, Nat.le_refl _, Nat.le_refl _, Nat.le_refl _, HND.out, hBel0, Put.start HS.out, rfl⟩
    case round =>
      obtain ⟨a', b', lim, wb, wp, dk, rfl, rfl, rfl, rfl, rfl, hab', hb', hk, hkM, hlim, hds, hBel, hAt, heq⟩ := hrel
      have HA : Hid (pdq ltInt dk a' b' lim wb wp = pdq ltInt d a b limit true true) := heq
      have HK : Hid (Put w g o N dk wr) := hAt
      have HD : Hid (dk.size = n) := hds
      clear heq hAt hds
      by_cases h12 : b' - a' ≤ 12
      · have h12z : (b' : Int) - (a' : Int) ≤ 12 := by omega
        have hc := insertion_is (cap := cap) HK.out.row hab' (by have := HD.out; omega) (by have := HD.out; omega)
        rw [HD.out] at hc
        go_wp2_with (go_at_call 61; refine hc.mono ?_; rintro e w1 ⟨rfl, hw1⟩)
        (try simp only [Exit.inBlock, Exit.then])
        refine bodyPost_ret (results_none rfl _ _ _) rfl ?_
        refine ⟨rfl, ?_⟩
        rw [← HA.out, pdq_small h12]
        exact HK.out.sorted hw1
      · have h12z : ¬ ((b' : Int) - (a' : Int) ≤ 12) := by omega
        by_cases hl0 : lim = 0
        · subst hl0
          have hc := heap_is (cap := cap) HK.out.row hab' (by have := HD.out; omega) (by have := HD.out; omega)
          rw [HD.out] at hc
          go_wp2_with (go_at_call 62; refine hc.mono ?_; rintro e w1 ⟨rfl, hw1⟩)
          (try simp only [Exit.inBlock, Exit.then])
          refine bodyPost_ret (results_none rfl _ _ _) rfl ?_
          refine ⟨rfl, ?_⟩
          rw [← HA.out, pdq_heap h12 rfl]
          exact HK.out.sorted hw1
        · have hl0z : ¬ ((lim : Int) = 0) := by omega
          obtain ⟨s1, B1, hc1, s2, B2, hpv, s3, B3⟩ := rd_facts (limit := lim) (wb := wb) (wp := wp) swo_int partialInsertionSort_holds reverseRange_holds (show a' < b' by omega) (show b' ≤ dk.size by have := HD.out; omega) hBel
          have S1 : Hid ((rd ltInt dk a' b' lim wb wp).d1.size = n) := s1.trans HD.out
          have S2 : Hid ((rd ltInt dk a' b' lim wb wp).d2.size = n) := s2.trans HD.out
          have S3 : Hid ((rd ltInt dk a' b' lim wb wp).pi.1.size = n) := s3.trans HD.out
          clear s1 s2 s3
          go_upto_if 35 with fail
          go_cut [3] from 19 (fun s3 wc => s3 = .int .i64 (rd ltInt dk a' b' lim wb wp).lim ∧ Put w g o N (rd ltInt dk a' b' lim wb wp).d1 wc)
          case first =>
            cases wb
            · have hc := break_is (cap := cap) HD.out HK.out.row hab' hb' hs
              go_wp2_with (go_at_call 63; refine hc.mono ?_; rintro e w1 ⟨rfl, hw1⟩)
              go_meet
              case rel =>
                refine ⟨?_, HK.out.put ⟨hw1.1, hw1.2⟩⟩
                show Value.int .i64 ((lim : Int) - 1) = Value.int .i64 ((lim - 1 : Nat) : Int)
                congr 1
                omega
            · go_wp2_with fail
              go_meet
              case rel => exact ⟨rfl, HK.out⟩
          case rest =>
            obtain ⟨rfl, hAt1⟩ := hcut
            have K1 : Hid (Put w g o N (rd ltInt dk a' b' lim wb wp).d1 wc) := hAt1
            clear hAt1
            have hc17 : Calls Try.prog 64 #[.slice (some ⟨g, o, none⟩) n cap, .int .i64 a', .int .i64 b'] wc fun e w' => e = .returned (.tuple #[.int .i64 (rd ltInt dk a' b' lim wb wp).c.1, .int .i64 (hintN (rd ltInt dk a' b' lim wb wp).c.2)]) ∧ wc.grownBy w' none :=
              choose_is S1.out K1.out.row (by omega) hb' (by omega)
            go_upto_if 50 with (go_at_call 64; refine hc17.mono ?_; rintro e w2 ⟨rfl, hw2⟩)
            have K2 : Hid (Put w g o N (rd ltInt dk a' b' lim wb wp).d1 w2) := K1.out.same hw2
            clear hc17
            go_cut [11, 12] from 19 (fun s11 s12 wc => s11 = .int .i64 (rd ltInt dk a' b' lim wb wp).pivot ∧ s12 = .int .i64 (hintN (rd ltInt dk a' b' lim wb wp).hint) ∧ Put w g o N (rd ltInt dk a' b' lim wb wp).d2 wc)
            case first =>
              by_cases hh : (rd ltInt dk a' b' lim wb wp).c.2 = .decreasing
              · have hcode : hintN (rd ltInt dk a' b' lim wb wp).c.2 = 2 := by rw [hh]; rfl
                obtain ⟨e2, epv, eht⟩ := rd_dec hh
                have hc18 := reverse_is (cap := cap) S1.out K2.out.row (show a' < b' by omega) hb' (by omega)
                go_wp2_with (go_at_call 65; refine hc18.mono ?_; rintro e w3 ⟨rfl, hw3⟩)
                go_meet
                case rel =>
                  refine ⟨?_, by rw [eht]; rfl, by rw [e2]; exact K2.out.sorted hw3⟩
                  rw [epv]
                  congr 1
                  omega
              · have hcode : ¬ (hintN (rd ltInt dk a' b' lim wb wp).c.2 = 2) := fun h => hh (hintN_two h)
                obtain ⟨e2, epv, eht⟩ := rd_not hh
                go_wp2_with fail
                go_meet
                case rel => exact ⟨by rw [epv], by rw [eht], by rw [e2]; exact K2.out⟩
            case rest =>
              obtain ⟨rfl, rfl, hAt3⟩ := hcut
              have K3 : Hid (Put w g o N (rd ltInt dk a' b' lim wb wp).d2 wc) := hAt3
              clear hAt3
              go_upto_region 15 with fail
              go_cut [12, 68] from 19 (fun s12 s68 wx => s12 = .int .i64 (hintN (rd ltInt dk a' b' lim wb wp).hint) ∧ s68 = .bool (wb && wp && decide ((rd ltInt dk a' b' lim wb wp).hint = .increasing)) ∧ wx = wc)
              case first =>
                cases wb <;> cases wp <;> cases hh3 : (rd ltInt dk a' b' lim _ _).hint <;>
                  (have hcode3 := congrArg hintN hh3
                   simp only [hintN] at hcode3
                   go_wp2_with fail
                   go_meet
                   exact ⟨by simp [hh3, hintN], by simp [hh3, hintN], rfl⟩)
              case rest =>
                obtain ⟨rfl, rfl, rfl⟩ := hcut
                go_upto_if 68 with fail
                go_cut [] from 19 (fun wx => (rd ltInt dk a' b' lim wb wp).pi.2 = false ∧ Put w g o N (rd ltInt dk a' b' lim wb wp).pi.1 wx)
                case first =>
                  cases h68 : (wb && wp && decide ((rd ltInt dk a' b' lim wb wp).hint = .increasing))
                  · have epi := rd_pi_no h68
                    go_wp2_with fail
                    go_meet
                    case rel => exact ⟨by rw [epi], by rw [epi]; exact K3.out⟩
                  · have epi := rd_pi_yes h68
                    have hc19 := partIns_is (cap := cap) S2.out K3.out.row (show a' < b' by omega) hb' (by omega)
                    rw [← epi] at hc19
                    go_wp2_with (go_at_call 66; refine hc19.mono ?_; rintro e w4 ⟨rfl, hw4⟩)
                    all_goals first
                      | (have hp2 : (rd ltInt dk a' b' lim wb wp).pi.2 = false := by rw [epi]; assumption
                         go_meet
                         exact ⟨hp2, K3.out.sorted hw4⟩)
                      | (have hp2 : (rd ltInt dk a' b' lim wb wp).pi.2 = true := by rw [epi]; assumption
                         (try simp only [Exit.inBlock, Exit.then])
                         refine bodyPost_ret (results_none rfl _ _ _) rfl ?_
                         refine ⟨rfl, ?_⟩
                         rw [← HA.out, pdq_done h12 hl0 hp2]
                         exact K3.out.sorted hw4)
                case rest =>
                  obtain ⟨hp2, hAt5⟩ := hcut
                  have K5 : Hid (Put w g o N (rd ltInt dk a' b' lim wb wp).pi.1 wc) := hAt5
                  clear hAt5
                  have hcw : ∀ t, t < n → wc.cell? ⟨g, o + t, none⟩ = some (.int .u64 (rd ltInt dk a' b' lim wb wp).pi.1[t]!) := fun t ht => K5.out.row.cell t (by rw [S3.out]; exact ht)
                  have hfw : ∀ t, t < n → wc.frozen? ⟨g, o + t, none⟩ = false := fun t ht => K5.out.row.free t (by rw [S3.out]; exact ht)
                  go_upto_region 17 with fail
                  go_cut [87] from 19 (fun s87 wx => s87 = .bool (decide (a' > 0) && !ltInt (rd ltInt dk a' b' lim wb wp).pi.1[a' - 1]! (rd ltInt dk a' b' lim wb wp).pi.1[(rd ltInt dk a' b' lim wb wp).pivot]!) ∧ Put w g o N (rd ltInt dk a' b' lim wb wp).pi.1 wx)
                  case first =>
                    rcases Nat.eq_zero_or_pos a' with ha0 | ha0
                    · have ha0z : decide ((a' : Int) > 0) = false := decide_eq_false (by omega)
                      go_big_quiet (first | (go_at_call 67; refine Calls.quiet_of_same (less_is _ _ _)))
                      go_wp2_with fail
                      go_meet
                      case rel => exact ⟨by simp [ha0], K5.out.drewN nq⟩
                    · have ha0z : (a' : Int) > 0 := by omega
                      go_big_quiet (first | (go_at_call 67; refine Calls.quiet_of_same (less_is _ _ _)))
                      go_wp2_with fail
                      go_meet
                      case rel => exact ⟨by simp [ha0], K5.out.drewN nq⟩
                  case rest =>
                    obtain ⟨rfl, hAt6⟩ := hcut
                    have K6 : Hid (Put w g o N (rd ltInt dk a' b' lim wb wp).pi.1 wc) := hAt6
                    clear hcw hfw hAt6
                    cases h87 : (decide (a' > 0) && !ltInt (rd ltInt dk a' b' lim wb wp).pi.1[a' - 1]! (rd ltInt dk a' b' lim wb wp).pi.1[(rd ltInt dk a' b' lim wb wp).pivot]!)
                    · obtain ⟨mid, ap, d4, hx⟩ : ∃ mid ap d4, partition ltInt (rd ltInt dk a' b' lim wb wp).pi.1 a' b' (rd ltInt dk a' b' lim wb wp).pivot = (mid, ap, d4) := ⟨_, _, _, rfl⟩
                      obtain ⟨r1, r2, r3, r4, r5, r6, r7⟩ := round_part swo_int (partition_holds ltInt) hpv.1 hpv.2 (show b' ≤ (rd ltInt dk a' b' lim wb wp).pi.1.size by rw [S3.out]; exact hb') B3 hx
                      have hc22 := part_is (cap := cap) S3.out K6.out.row hpv.1 hpv.2 hb' (by omega)
                      rw [hx] at hc22
                      have X : Hid (partition ltInt (rd ltInt dk a' b' lim wb wp).pi.1 a' b' (rd ltInt dk a' b' lim wb wp).pivot = (mid, ap, d4)) := hx
                      have S4 : Hid (d4.size = n) := r3.trans S3.out
                      clear hx r3
                      go_upto_if 113 with (go_at_call 69; refine hc22.mono ?_; rintro e w7 ⟨rfl, hw7⟩)
                      have K7 : Hid (Put w g o N d4 w7) := K6.out.sorted hw7
                      clear hw7
                      by_cases h4 : mid - a' < b' - mid
                      · have h4z : (mid : Int) - (a' : Int) < (b' : Int) - (mid : Int) := by omega
                        have hih := ih w7 g o N cap a' mid (rd ltInt dk a' b' lim wb wp).lim n d4 (by omega) S4.out K7.out.row (by omega) (by omega) hs (Nat.lt_of_le_of_lt (Nat.le_trans rd_lim_le hlim) hlimit) r4
                        obtain ⟨pL, sL⟩ := pdq_sorts ltInt swo_int d4 a' mid (rd ltInt dk a' b' lim wb wp).lim true true (by omega) (by have := S4.out; omega) r4
                        have PL : Hid ((pdq ltInt d4 a' mid (rd ltInt dk a' b' lim wb wp).lim true true).size = n) := pL.1.trans S4.out
                        have BL := (r6 _ pL sL).1
                        clear pL sL r6 r7
                        go_wp2_with (go_at_call 56; refine hih.mono ?_; rintro e w8 ⟨rfl, hw8⟩)
                        go_roundg (b' - (mid + 1))
                        case measure => omega
                        case rel =>
                          refine ⟨mid + 1, b', (rd ltInt dk a' b' lim wb wp).lim, decide (mid - a' ≥ (b' - a') / 8), ap, pdq ltInt d4 a' mid (rd ltInt dk a' b' lim wb wp).lim true true, by simp, rfl, rfl, ?_, rfl, by omega, by omega, Nat.le_refl _, by omega, Nat.le_trans rd_lim_le hlim, PL.out, BL, K7.out.put hw8, ?_⟩
                          · exact congrArg Value.bool (bal_is (by omega) (by omega))
                          · rw [← HA.out, pdq_left h12 hl0 hp2 h87 (by rw [X.out]; exact ⟨r1, r2⟩) (by rw [X.out]; exact h4), X.out]
                      · have h4z : ¬ ((mid : Int) - (a' : Int) < (b' : Int) - (mid : Int)) := by omega
                        have hih := ih w7 g o N cap (mid + 1) b' (rd ltInt dk a' b' lim wb wp).lim n d4 (by omega) S4.out K7.out.row (by omega) hb' hs (Nat.lt_of_le_of_lt (Nat.le_trans rd_lim_le hlim) hlimit) r5
                        obtain ⟨pL, sL⟩ := pdq_sorts ltInt swo_int d4 (mid + 1) b' (rd ltInt dk a' b' lim wb wp).lim true true (by omega) (by have := S4.out; omega) r5
                        have PL : Hid ((pdq ltInt d4 (mid + 1) b' (rd ltInt dk a' b' lim wb wp).lim true true).size = n) := pL.1.trans S4.out
                        have BL := (r7 _ pL sL).1
                        clear pL sL r6 r7
                        go_wp2_with (go_at_call 56; refine hih.mono ?_; rintro e w8 ⟨rfl, hw8⟩)
                        go_roundg (mid - a')
                        case measure => omega
                        case rel =>
                          refine ⟨a', mid, (rd ltInt dk a' b' lim wb wp).lim, decide (b' - mid ≥ (b' - a') / 8), ap, pdq ltInt d4 (mid + 1) b' (rd ltInt dk a' b' lim wb wp).lim true true, rfl, rfl, rfl, ?_, rfl, by omega, by omega, Nat.le_refl _, by omega, Nat.le_trans rd_lim_le hlim, PL.out, BL, K7.out.put hw8, ?_⟩
                          · exact congrArg Value.bool (bal_is (by omega) (by omega))
                          · rw [← HA.out, pdq_right h12 hl0 hp2 h87 (by rw [X.out]; exact ⟨r1, r2⟩) (by rw [X.out]; exact h4), X.out]
                    · have h87' := h87
                      simp only [Bool.and_eq_true, decide_eq_true_eq, Bool.not_eq_true'] at h87'
                      obtain ⟨mid, d4, hx⟩ : ∃ mid d4, partitionEqual ltInt (rd ltInt dk a' b' lim wb wp).pi.1 a' b' (rd ltInt dk a' b' lim wb wp).pivot = (mid, d4) := ⟨_, _, rfl⟩
                      obtain ⟨r1, r2, r3, r4, _⟩ := round_eq swo_int (partitionEqual_holds ltInt) h87'.1 hpv.1 hpv.2 (show b' ≤ (rd ltInt dk a' b' lim wb wp).pi.1.size by rw [S3.out]; exact hb') B3 h87'.2 hx
                      have hc21 := partEq_is (cap := cap) S3.out K6.out.row hpv.1 hpv.2 hb' (by omega)
                      rw [hx] at hc21
                      have X : Hid (partitionEqual ltInt (rd ltInt dk a' b' lim wb wp).pi.1 a' b' (rd ltInt dk a' b' lim wb wp).pivot = (mid, d4)) := hx
                      have S4 : Hid (d4.size = n) := r3.trans S3.out
                      clear hx r3
                      go_wp2_with (go_at_call 68; refine hc21.mono ?_; rintro e w7 ⟨rfl, hw7⟩)
                      go_roundg (b' - mid)
                      case measure => omega
                      case rel =>
                        exact ⟨mid, b', (rd ltInt dk a' b' lim wb wp).lim, wb, wp, d4, rfl, rfl, rfl, rfl, rfl, r2, hb', Nat.le_refl _, by omega, Nat.le_trans rd_lim_le hlim, S4.out, r4, K6.out.sorted hw7, by rw [← HA.out, pdq_eq h12 hl0 hp2 h87 (by rw [X.out]; exact ⟨r1, r2⟩), X.out]⟩

end Go.Proofs.Ytmfdhcnnhlchbaa
