import Derived.Test.YtmfdhcnnhlchbaaC39
import Derived.Test.YtmfdhcnnhlchbaaC40
import Derived.Test.YtmfdhcnnhlchbaaC38
namespace Go.Proofs.Ytmfdhcnnhlchbaa
open Go.RowKit Go.Maps

abbrev agg3 (k n : Int) : Value := .agg #[.int .i64 k, .int .u64 n, .int .u64 0, .int .i64 0, .int .i64 0, .int .i64 0, .int .u64 0, .int .u64 0, .int .u64 0]

section
variable {lab : Nat → Nat} {w : World} {y x : Nat} {m : Mod} {L0 L1 : Lg} {r0 r1 : LgAt} {N : Nat}

theorem DoOther.then {lab1 : Nat → Nat} {w1 w2 : World} {m2 : Mod} {M : Nat} (st : StepW lab lab1 w w1) (h : DoOther lab1 w1 y x m2 L0 L1 r0 r1 M w2) : DoOther lab w y x m2 L0 L1 r0 r1 M w2 := by
  obtain ⟨lab2, hd, st2⟩ := h
  exact ⟨lab2, hd, st.trans st2⟩

theorem tick_at {t : Nat} (h : Wd lab w y x (tkM m t) L0 L1 r0 r1 (N + t)) (hm : Num m N) (ht : t < 2) (hN : N < 40000) :
    Calls Try.prog 10 #[.pointer (some ⟨x, 0, none⟩), .int .i64 t, agg3 2 0] w fun e w' => e = .returned (.tuple #[.int .u64 0, .int .i64 0]) ∧ DoOther lab w y x (tkM m (t + 1)) L0 L1 r0 r1 (N + t + 1) w' := by
  have := do_other (k := 2) (n := 0) h ht (by omega) ⟨by decide, by decide⟩ (by decide) (by decide) (by decide) (by decide) (by decide)
  rw [tkM_step hm (by omega) ht] at this
  exact this

theorem up_at {t d : Nat} (h : Wd lab w y x (upM (tkM m 2) t) L0 L1 r0 r1 (N + 2 + t)) (hm : Num m N) (ht : t < 2) (hd : d + t = 1) (hN : N < 40000) {H : Int} (hH : H = (chOf (tkM m 2) d).hd.height) (h0 : 0 ≤ H) (h1 : H < 18446744073709551616) :
    Calls Try.prog 10 #[.pointer (some ⟨x, 0, none⟩), .int .i64 t, agg3 3 H] w fun e w' => e = .returned (.tuple #[.int .u64 0, .int .i64 0]) ∧ DoOther lab w y x (upM (tkM m 2) (t + 1)) L0 L1 r0 r1 (N + 2 + t + 1) w' := by
  have := do_other (k := 3) (n := H) h ht (by omega) ⟨h0, h1⟩ (by decide) (by decide) (by decide) (by decide) (by decide)
  rw [hH, upM_step hm ht hd, ← hH] at this
  exact this

theorem tk_height (hm : Num m N) (d : Nat) : 0 ≤ (chOf (tkM m 2) d).hd.height ∧ (chOf (tkM m 2) d).hd.height ≤ N + 1 := by
  obtain ⟨_, _, ⟨a1, a2⟩, ⟨b1, b2⟩, l0, l1, k0, k1⟩ := hm
  by_cases e : d = 0
  · simp only [chOf, e, if_true]; simp [tkM, ticked]; omega
  · simp only [chOf, e, if_false]; simp [tkM, ticked]; omega

def MetTo (lab : Nat → Nat) (w : World) (y x : Nat) (m : Mod) (L0 L1 : Lg) (r0 r1 : LgAt) (N : Nat) (w' : World) : Prop := DoOther lab w y x (upM (tkM m 2) 2) L0 L1 r0 r1 (N + 4) w'

set_option maxRecDepth 100000 in
set_option maxHeartbeats 3200000 in
theorem meet_ok (h : Wd lab w y x m L0 L1 r0 r1 N) (hN : N < 40000) :
    Calls Try.prog 11 #[.pointer (some ⟨y, 0, none⟩)] w fun e w' => e = .returned (.bool true) ∧ MetTo lab w y x m L0 L1 r0 r1 N w' := by
  have HM : Hid (Num m N) := h.num
  have H0 : Hid (DoOther lab w y x (tkM m 0) L0 L1 r0 r1 (N + 0) w) := ⟨lab, by rw [tkM_zero]; exact h, StepW.refl _ _⟩
  clear h
  go_enter Try.func11, Try.ntmps11
  go_wp2_with fail
  go_loopw [11] (fun vt wr => ∃ t : Nat, vt = .int .i64 t ∧ t ≤ 2 ∧ DoOther lab w y x (tkM m t) L0 L1 r0 r1 (N + t) wr) (fun vt _ => 3 - (intV vt).toNat)
  case atStart => exact ⟨0, rfl, by omega, H0.out⟩
  case round =>
    obtain ⟨t, rfl, ht, lab1, hd, st⟩ := hrel
    by_cases ht2 : t < 2
    · have htz : (t : Int) < 2 := by omega
      have tw := wrap_i (n := t + 1) (by omega)
      have hdo := tick_at hd HM.out ht2 hN
      obtain ⟨y0, _, _, _, yf⟩ := hd.mem.cells ht2
      have hyl := blk_lt hd.blk
      have HS : Hid (StepW lab lab1 w wr) := st
      clear hd st
      go_wp2_with (go_at_call 10; refine hdo.mono ?_; rintro e w2 ⟨rfl, hto⟩)
      go_roundw
      case rel => exact ⟨t + 1, by simp, by omega, hto.then HS.out⟩
      case measure => simp [intV]; omega
    · have hte : t = 2 := by omega
      subst hte
      have H1 : Hid (DoOther lab w y x (upM (tkM m 2) 0) L0 L1 r0 r1 (N + 2 + 0) wr) := ⟨lab1, by rw [upM_zero]; exact hd, st⟩
      clear hd st
      rw [show ((2 : Nat) : Int) = 2 from rfl]
      go_wp2_with fail
      go_loopw [27] (fun vt wr => ∃ t : Nat, vt = .int .i64 t ∧ t ≤ 2 ∧ DoOther lab w y x (upM (tkM m 2) t) L0 L1 r0 r1 (N + 2 + t) wr) (fun vt _ => 3 - (intV vt).toNat)
      case atStart => exact ⟨0, rfl, by omega, H1.out⟩
      case round =>
        obtain ⟨t, rfl, ht, lab1, hd, st⟩ := hrel
        by_cases ht2 : t < 2
        · have htz : (t : Int) < 2 := by omega
          have tw := wrap_i (n := t + 1) (by omega)
          obtain ⟨d, ed⟩ : ∃ d, d + t = 1 := ⟨1 - t, by omega⟩
          have hd2 : d < 2 := by omega
          have wd : IntKind.i64.wrap (1 - (t : Int)) = (d : Int) := by rw [show (1 : Int) - (t : Int) = (d : Int) by omega]; exact wrap_i (by omega)
          have hlk := look_at hd.mem hd2 (by omega)
          obtain ⟨S, eS⟩ : ∃ S, S = chOf (upM (tkM m 2) t) d := ⟨_, rfl⟩
          rw [← eS] at hlk
          have hSh : S.hd.height = (chOf (tkM m 2) d).hd.height := by rw [eS]; exact upM_height _ _ _
          have hrg := tk_height HM.out d
          obtain ⟨y0, _, _, _, yf⟩ := hd.mem.cells ht2
          have hyl := blk_lt hd.blk
          have HS : Hid (StepW lab lab1 w wr ∧ Wd lab1 wr y x (upM (tkM m 2) t) L0 L1 r0 r1 (N + 2 + t) ∧ d + t = 1 ∧ S.hd.height = (chOf (tkM m 2) d).hd.height ∧ 0 ≤ S.hd.height ∧ S.hd.height < 18446744073709551616) := ⟨st, hd, ed, hSh, by omega, by omega⟩
          clear hd st ed eS hSh hrg
          go_upto_region 12 with (go_at_call 13; refine hlk.mono ?_; rintro e w3 ⟨kh, al, cl, rfl, g3⟩)
          obtain ⟨wB, hwB⟩ : ∃ wB : World, wB = w3.alloc (.cells (lkArr S kh al cl) 49) := ⟨_, rfl⟩
          obtain ⟨bl, hbl⟩ : ∃ bl, bl = w3.heap.size := ⟨_, rfl⟩
          have gB : wr.grownBy wB none := by rw [hwB]; exact grown_alloc g3 _
          have hL : wB.heap[bl]? = some (.cells (lkArr S kh al cl) 49 (0, 0)) := by rw [hwB, hbl]; exact heap_alloc_new w3 _
          have hlb : wr.heap.size ≤ bl := by rw [hbl]; exact g3.size
          rw [← hwB, ← hbl]
          clear hwB hbl g3 hlk y0 yf
          have hdB := (HS.out.2.1.fresh gB).grown (grown_drew (grown_refl wB none))
          have hdo := up_at hdB HM.out ht2 HS.out.2.2.1 hN HS.out.2.2.2.1 HS.out.2.2.2.2.1 HS.out.2.2.2.2.2
          obtain ⟨y0, _, _, _, yf⟩ := (HS.out.2.1.mem.grown gB).cells ht2
          have hylB := blk_lt (HS.out.2.1.mem.grown gB).blk
          obtain ⟨v0, v1, v2, v3, v4, v5, v6, v7, v8, vf⟩ := blk9c hL
          have hbll := blk_lt hL
          obtain ⟨Hh, eH⟩ : ∃ Hh, Hh = S.hd.height := ⟨_, rfl⟩
          rw [← eH] at v0 hdo
          have keep : Hid (∀ w2, DoOther (labN lab1 wr.heap.size) wB.drew y x (upM (tkM m 2) (t + 1)) L0 L1 r0 r1 (N + 2 + t + 1) w2 → w2.cell? ⟨y, 0, none⟩ = some (.pointer (some ⟨x, 0, none⟩)) ∧ w2.cell? ⟨bl, 0, none⟩ = some (.int .u64 Hh)) := by
            rintro w2 ⟨lab2, h2, st2⟩
            refine ⟨(h2.mem.cells ht2).1, ?_⟩
            have := (st2.block bl hbll (labN_new hlb)).trans hL
            rw [eH]
            exact (blk9c this).1
          have HG : Hid (wr.grownBy wB none) := gB
          clear hdB eH v1 v2 v3 v4 v5 v6 v7 v8
          go_wp2_with fail
          go_region_held3 (fun w' => w'.cell? ⟨y, 0, none⟩ = some (.pointer (some ⟨x, 0, none⟩)) ∧ w'.cell? ⟨bl, 0, none⟩ = some (.int .u64 Hh)) (go_keep)
            (first
              | (go_at_call 10; refine hdo.mono ?_; rintro e w2 ⟨rfl, hto⟩; obtain ⟨ky, kl⟩ := keep.out _ hto))
          go_wp2_with fail
          go_roundw
          case rel => exact ⟨t + 1, by simp, by omega, hto.then (HS.out.1.trans (StepW.ofG (grown_drew HG.out) (fun k hk => labN_old hk)))⟩
          case measure => simp [intV]; omega
        · have hte : t = 2 := by omega
          subst hte
          have H2 : Hid (MetTo lab w y x m L0 L1 r0 r1 N wr) := ⟨lab1, hd, st⟩
          clear hd st
          go_wp2_with fail
          go_ret
          exact ⟨rfl, H2.out⟩

end

end Go.Proofs.Ytmfdhcnnhlchbaa

namespace Go.Proofs.Ytmfdhcnnhlchbaa
open Go.RowKit Go.Maps

/-- S has seen O as it is, and O is closed. -/
structure Kn (S O : Ch) : Prop where
  o : (knownHd S O).isOpen = false
  a : (knownHd S O).answers = O.hd.answers
  r : (knownHd S O).nextRecv = O.hd.nextRecv

structure Shut (m : Mod) : Prop where
  o0 : m.c0.hd.isOpen = false
  o1 : m.c1.hd.isOpen = false
  k0 : Kn m.c0 m.c1
  k1 : Kn m.c1 m.c0

theorem Meet.shut {m m' : Mod} (h : Meet m m') (h0 : m.c0.hd.isOpen = false) (h1 : m.c1.hd.isOpen = false) : Shut m' :=
  ⟨h.o0.trans h0, h.o1.trans h1, ⟨by rw [h.k0]; exact h.o1.trans h1, by rw [h.k0], by rw [h.k0]⟩, ⟨by rw [h.k1]; exact h.o0.trans h0, by rw [h.k1], by rw [h.k1]⟩⟩

section
variable {S O : Ch} {Ls Lo : Lg} {N i : Nat} {n v : Int} {q : Pk} {K : Hd} {cl : Bool}

theorem ack_known : (ackC S n K).1.known = S.known := by
  unfold ackC
  cases hf : S.hd.packets.find? (fun p => p.seq == n) with
  | none => rfl
  | some p =>
    simp only
    by_cases h1 : (S.hd.packets.head?.map (fun q => q.seq == n)) = some false
    · rw [if_pos h1]
    rw [if_neg h1]
    cases ha : K.answers.find? (fun a => a.1 == n) with
    | none => rfl
    | some a => simp only; split <;> rfl

theorem back_known : (backC S n K cl).1.known = S.known := by
  unfold backC
  cases hf : S.hd.packets.find? (fun p => p.seq == n) with
  | none => rfl
  | some p =>
    simp only
    by_cases h1 : (cl && K.isOpen) = true
    · rw [if_pos h1]
    rw [if_neg h1]
    by_cases h2 : ((!cl && !dueB p K.height K.time) || decide (n < K.nextRecv)) = true
    · rw [if_pos h2]
    · rw [if_neg h2]; rfl

theorem found (h : Side S O Ls) (hq : Ls.sent[i]? = some q) (hp : Ls.pend[i]? = some true) : ∃ p, S.hd.packets.find? (fun p => p.seq == (i : Int) + 1) = some p := by
  have hm : numbered q i ∈ S.hd.packets := (h.pk _).2 ⟨i, q, hq, hp, rfl⟩
  cases hf : S.hd.packets.find? (fun p => p.seq == (i : Int) + 1) with
  | none =>
    rw [List.find?_eq_none] at hf
    exact absurd (by simp [numbered]) (hf _ hm)
  | some p => exact ⟨p, rfl⟩

/-- An answer that is there comes back. -/
theorem ack_goes (h : Side S O Ls) (hk : Kn S O) (hq : Ls.sent[i]? = some q) (hp : Ls.pend[i]? = some true) (hv : Ls.ans[i]? = some v) (hv0 : ¬ v = 0) (hall : ∀ j, j < i → Ls.pend[j]? = some false) : (ackC S ((i : Int) + 1) (knownHd S O)).2.2 = 0 := by
  obtain ⟨p, hf⟩ := found h hq hp
  have hm : numbered q i ∈ S.hd.packets := (h.pk _).2 ⟨i, q, hq, hp, rfl⟩
  unfold ackC
  rw [hf]
  simp only
  have hh : ¬ ((S.hd.packets.head?.map (fun q => q.seq == (i : Int) + 1)) = some false) := by
    cases hpk : S.hd.packets with
    | nil => simp
    | cons x r =>
      have hx : x ∈ S.hd.packets := by rw [hpk]; simp
      obtain ⟨j, qj, h1, h2, rfl⟩ := (h.pk x).1 hx
      have hso := h.sorted
      rw [hpk, List.pairwise_cons] at hso
      rw [hpk] at hm
      have hle : (numbered qj j).seq ≤ (i : Int) + 1 := by
        simp only [List.mem_cons] at hm
        rcases hm with e | e
        · rw [← e]; exact Int.le_refl _
        · have := hso.1 _ e
          have e2 : (numbered q i).seq = (i : Int) + 1 := rfl
          omega
      have hj : ¬ j < i := fun e => by rw [hall j e] at h2; cases h2
      have e2 : (numbered qj j).seq = (j : Int) + 1 := rfl
      have : j = i := by omega
      subst this
      simp [numbered]
  rw [if_neg hh]
  have han := h.an i q hq
  rw [hv] at han
  have hil : i < O.hd.answers.length := by
    by_cases e : i < O.hd.answers.length
    · exact e
    · rw [if_neg e] at han
      exact absurd (by simpa using han) hv0
  have hra := h.ra i q hq hil
  have hma : ((i : Int) + 1, goodTo q) ∈ (knownHd S O).answers := by rw [hk.a]; exact List.mem_of_getElem? hra
  cases ha : (knownHd S O).answers.find? (fun a => a.1 == (i : Int) + 1) with
  | none =>
    rw [List.find?_eq_none] at ha
    exact absurd (by simp) (ha _ hma)
  | some a => rfl

/-- What was not received comes back. -/
theorem back_goes (h : Side S O Ls) (hk : Kn S O) (hq : Ls.sent[i]? = some q) (hp : Ls.pend[i]? = some true) (hv : Ls.ans[i]? = some 0) : (backC S ((i : Int) + 1) (knownHd S O) true).2.2 = 0 := by
  obtain ⟨p, hf⟩ := found h hq hp
  unfold backC
  rw [hf]
  simp only
  have han := h.an i q hq
  rw [hv] at han
  have hil : ¬ i < O.hd.answers.length := by
    intro e
    rw [if_pos e] at han
    split at han <;> simp at han
  have hrn := h.rn
  have e1 : decide ((i : Int) + 1 < (knownHd S O).nextRecv) = false := by rw [hk.r, hrn]; simp; omega
  rw [hk.o, e1]
  rfl

end

section
variable {m : Mod} {L0 L1 : Lg} {N c i : Nat} {v : Int} {q : Pk}

theorem Kn.sender {S S' O : Ch} (h : Kn S O) (e : S'.known = S.known) : Kn S' O := by
  have : knownHd S' O = knownHd S O := by unfold knownHd; rw [e]
  exact ⟨by rw [this]; exact h.o, by rw [this]; exact h.a, by rw [this]; exact h.r⟩

theorem Kn.receiver {S O O' : Ch} (h : Kn S O) (e1 : O'.heads = O.heads) (e2 : O'.hd.answers = O.hd.answers) (e3 : O'.hd.nextRecv = O.hd.nextRecv) : Kn S O' := by
  have : knownHd S O' = knownHd S O := by unfold knownHd; rw [e1]
  exact ⟨by rw [this]; exact h.o, by rw [this, e2]; exact h.a, by rw [this, e3]; exact h.r⟩

/-- What a packet that is pending still needs: an answer's way back, or its own. -/
def settleK (v : Int) : Int := if v = 0 then 7 else 5

/-- By its chain's eyes. -/
theorem settle_side {S O : Ch} {Ls Lo : Lg} (h : Two S O Ls Lo N) (hs : S.hd.isOpen = false) (h1 : Kn S O) (h2 : Kn O S) (hq : Ls.sent[i]? = some q) (hp : Ls.pend[i]? = some true) (hv : Ls.ans[i]? = some v) (hall : ∀ j, j < i → Ls.pend[j]? = some false) (p : Pk) :
    (doC S (settleK v) ((i : Int) + 1) p (knownHd S O) O.heads.length).2.2 = 0 ∧ (doC S (settleK v) ((i : Int) + 1) p (knownHd S O) O.heads.length).1.hd.isOpen = false ∧
      Kn (doC S (settleK v) ((i : Int) + 1) p (knownHd S O) O.heads.length).1 O ∧ Kn O (doC S (settleK v) ((i : Int) + 1) p (knownHd S O) O.heads.length).1 := by
  obtain ⟨_, _, d5, _, d7⟩ := doC_k (n := (i : Int) + 1) (p := p) S (knownHd S O) O.heads.length
  unfold settleK
  by_cases e : v = 0
  · subst e
    rw [if_pos rfl, d7]
    obtain ⟨k1, k2, k3, k4, k5, k6⟩ := back_keeps (S := S) (n := (i : Int) + 1) (K := knownHd S O) (cl := true)
    refine ⟨back_goes h.out h1 hq hp hv, ?_, h1.sender back_known, h2.receiver k3 k2 k1⟩
    rcases k6 with k6 | k6
    · exact k6.trans hs
    · exact k6
  · rw [if_neg e, d5]
    obtain ⟨k1, k2, k3, k4, k5, k6⟩ := ack_keeps (S := S) (n := (i : Int) + 1) (K := knownHd S O)
    exact ⟨ack_goes h.out h1 hq hp hv e hall, k6.trans hs, h1.sender ack_known, h2.receiver k3 k2 k1⟩

theorem settle_took {k n seq : Int} {p : Pk} {m' : Mod} {L0' L1' : Lg} (t : Took c k n p seq m' L0 L1 L0' L1') (hk : k = settleK v) (hn : n = (i : Int) + 1) :
    L0' = put0 c L0 ((lgOf L0 L1 c).done i) ∧ L1' = put1 c L1 ((lgOf L0 L1 c).done i) ∧ Took c k n p 0 m' L0 L1 L0' L1' := by
  unfold settleK at hk
  cases t with
  | send e _ => exfalso; split at hk <;> omega
  | other a b d e f => exfalso; split at hk <;> omega
  | recv _ _ _ e => exfalso; split at hk <;> omega
  | ack j u e1 e2 e3 e4 e5 e6 =>
    obtain rfl : j = i := by omega
    exact ⟨rfl, rfl, .ack j u e1 e2 e3 e4 e5 e6⟩
  | back j e1 e2 e3 e4 e5 =>
    obtain rfl : j = i := by omega
    exact ⟨rfl, rfl, .back j e1 e2 e3 e4 e5⟩

theorem settle (h : Two m.c0 m.c1 L0 L1 N) (hN : N < 100000) (hs : Shut m) (hc : c < 2) (hq : (lgOf L0 L1 c).sent[i]? = some q) (hp : (lgOf L0 L1 c).pend[i]? = some true) (hv : (lgOf L0 L1 c).ans[i]? = some v) (hall : ∀ j, j < i → (lgOf L0 L1 c).pend[j]? = some false) {p : Pk} (hpa : 0 ≤ p.amount) :
    (doM m c (settleK v) ((i : Int) + 1) p).2.2 = 0 ∧ Shut (doM m c (settleK v) ((i : Int) + 1) p).1 ∧
      Took c (settleK v) ((i : Int) + 1) p 0 (doM m c (settleK v) ((i : Int) + 1) p).1 L0 L1 (put0 c L0 ((lgOf L0 L1 c).done i)) (put1 c L1 ((lgOf L0 L1 c).done i)) ∧
      Two (doM m c (settleK v) ((i : Int) + 1) p).1.c0 (doM m c (settleK v) ((i : Int) + 1) p).1.c1 (put0 c L0 ((lgOf L0 L1 c).done i)) (put1 c L1 ((lgOf L0 L1 c).done i)) (N + 1) ∧
      (Cons m L0 L1 → Cons (doM m c (settleK v) ((i : Int) + 1) p).1 (put0 c L0 ((lgOf L0 L1 c).done i)) (put1 c L1 ((lgOf L0 L1 c).done i))) := by
  have hok : (doM m c (settleK v) ((i : Int) + 1) p).2.2 = 0 ∧ Shut (doM m c (settleK v) ((i : Int) + 1) p).1 := by
    rcases (show c = 0 ∨ c = 1 by omega) with rfl | rfl
    · obtain ⟨a, b, d, e⟩ := settle_side h hs.o0 hs.k0 hs.k1 hq hp hv hall p
      simp only [doM, if_true]
      exact ⟨a, b, hs.o1, d, e⟩
    · obtain ⟨a, b, d, e⟩ := settle_side h.flip hs.o1 hs.k1 hs.k0 hq hp hv hall p
      simp only [doM, Nat.one_ne_zero, if_false]
      exact ⟨a, hs.o0, b, e, d⟩
  refine ⟨hok.1, hok.2, ?_⟩
  obtain ⟨L0', L1', t, tw⟩ := doM_took (k := settleK v) (n := (i : Int) + 1) (p := p) h hc hN (by omega) hok.1
  have hcn := fun e : Cons m L0 L1 => cons_took h e hc hpa hok.1 t
  obtain ⟨rfl, rfl, t0⟩ := settle_took t rfl rfl
  exact ⟨t0, tw, hcn⟩

/-- None is pending: there are none. -/
theorem none_left {S O : Ch} {L : Lg} (h : Side S O L) (hall : ∀ j, j < L.sent.length → L.pend[j]? = some false) : S.hd.packets = [] := by
  cases hp : S.hd.packets with
  | nil => rfl
  | cons a r =>
    obtain ⟨j, q, h1, h2, _⟩ := (h.pk a).1 (by rw [hp]; simp)
    rw [hall j (lt_of_some h1)] at h2
    cases h2

end

end Go.Proofs.Ytmfdhcnnhlchbaa

namespace Go.Proofs.Ytmfdhcnnhlchbaa
open Go.RowKit Go.Maps

/-- A run of the law's world. -/
def Play (w : World) (y x N : Nat) (wr : World) : Prop := ∃ lab m L0 L1 r0 r1, Wd lab wr y x m L0 L1 r0 r1 N ∧ (∀ k, k < w.heap.size → lab k = 0) ∧ Below w.heap.size w wr ∧ Cons m L0 L1

theorem Play.step {w wr w' : World} {y x N : Nat} {lab : Nat → Nat} {m : Mod} {L0 L1 : Lg} (hl : ∀ k, k < w.heap.size → lab k = 0) (hb : Below w.heap.size w wr) (hc : Cons m L0 L1) (h : MoveTo lab wr y x m L0 L1 (N + 1) w') : Play w y x (N + 1) w' := by
  obtain ⟨lab', m', L0', L1', r0', r1', hd, st, hcn⟩ := h
  exact ⟨lab', m', L0', L1', r0', r1', hd, fun k hk => (st.label k (Nat.lt_of_lt_of_le hk hb.size)).trans (hl k hk), hb.trans (st.below hb.size hl), hcn hc⟩

def Played (w : World) (e : Ending) (w' : World) : Prop := ∃ x y N, e = .returned (.tuple #[.pointer (some ⟨y, 0, none⟩), .bool true]) ∧ N ≤ 4096 ∧ Play w y x N w'

theorem Played.mk {w : World} {e : Ending} {w' : World} {x y N : Nat} (h : e = .returned (.tuple #[.pointer (some ⟨y, 0, none⟩), .bool true])) (h1 : N ≤ 4096) (h2 : Play w y x N w') : Played w e w' := ⟨x, y, N, h, h1, h2⟩

set_option maxRecDepth 100000 in
set_option maxHeartbeats 1600000 in
theorem play_ok {w : World} (s : ByteArray) (hs : s.size ≤ 16384) : Calls Try.prog 6 #[.string s] w fun e w' => Played w e w' := by
  obtain ⟨n, hn⟩ : ∃ n, n = s.size := ⟨_, rfl⟩
  have hn' : s.size = n := hn.symm
  have hbeg := begin_wd (w := w)
  have HN : Hid (n = s.size ∧ n ≤ 16384) := ⟨hn, by omega⟩
  clear hn hs
  go_enter Try.func6, Try.ntmps6
  go_wp2_with (go_at_call 7; refine hbeg.mono ?_; rintro e w1 ⟨x, y, lab, rfl, hd, hl0, g1⟩)
  have HP0 : Hid (Play w y x 0 w1) := ⟨lab, _, _, _, _, _, hd, hl0, ⟨g1.os, g1.tape, g1.output, g1.size, fun k hk => g1.block k hk (by simp)⟩, cons_new⟩
  clear hd hl0 g1 hbeg
  go_loopw [6] (fun vi wr => ∃ q : Nat, vi = .int .i64 ((4 * q : Nat) : Int) ∧ 4 * q ≤ n ∧ Play w y x q wr) (fun vi _ => n + 4 - (intV vi).toNat)
  case atStart => exact ⟨0, rfl, by omega, HP0.out⟩
  case round =>
    obtain ⟨q, rfl, hq, hP⟩ := hrel
    have hle := HN.out.2
    obtain ⟨e, he⟩ : ∃ e, e = 4 * q := ⟨_, rfl⟩
    rw [← he]
    have w3 : IntKind.i64.wrap ((e : Int) + 3) = (e : Int) + 3 := by have := wrap_i (n := e + 3) (by omega); simpa using this
    have w4 : IntKind.i64.wrap ((e : Int) + 4) = (e : Int) + 4 := by have := wrap_i (n := e + 4) (by omega); simpa using this
    by_cases hlt : e + 3 < n
    · have hltz : (e : Int) + 3 < (n : Int) := by omega
      obtain ⟨lab', m', L0, L1, r0, r1, hd, hl, hb, hcn⟩ := hP
      have hmv := move_ok hd (by omega) (s.extract e (e + 4)) (by rw [ByteArray.size_extract, ← HN.out.1]; omega)
      have HH : Hid (e = 4 * q ∧ (∀ k, k < w.heap.size → lab' k = 0) ∧ Below w.heap.size w wr ∧ Cons m' L0 L1) := ⟨he, hl, hb, hcn⟩
      clear hd hl hb he hcn
      go_wp2_with (go_at_call 9; refine hmv.mono ?_; rintro e2 w2 ⟨rfl, hto⟩)
      go_roundw
      case rel => exact ⟨q + 1, by have := HH.out.1; simp; omega, by have := HH.out.1; omega, Play.step HH.out.2.1 HH.out.2.2.1 HH.out.2.2.2 hto⟩
      case measure => have := HH.out.1; simp [intV]; omega
    · have hltz : ¬ (e : Int) + 3 < (n : Int) := by omega
      have HP : Hid (Play w y x q wr ∧ q ≤ 4096) := ⟨hP, by omega⟩
      clear hP he
      go_wp2_with fail
      go_ret2
      exact Played.mk rfl HP.out.2 HP.out.1

set_option maxRecDepth 100000 in
set_option maxHeartbeats 1600000 in
theorem once_ok (s : ByteArray) (w : World) : Calls Try.prog 3 #[.string s] w fun e w' => e = .returned (.bool true) ∧ Below w.heap.size w w' := by
  obtain ⟨n, hn⟩ : ∃ n, n = s.size := ⟨_, rfl⟩
  have hn' : s.size = n := hn.symm
  by_cases hs : n ≤ 16384
  · have hsz : ¬ (16384 : Int) < (n : Int) := by omega
    have hp := play_ok (w := w) s (by omega)
    clear hn
    go_enter Try.func3, Try.ntmps3
    go_wp2_with (go_at_call 6; refine hp.mono ?_; rintro e w1 ⟨x, y, N, rfl, hN, lab, m, L0, L1, r0, r1, hd, hl, hb, hcn⟩)
    go_ret
    exact ⟨rfl, hb⟩
  · have hsz : (16384 : Int) < (n : Int) := by omega
    clear hn
    go_enter Try.func3, Try.ntmps3
    go_wp2_with fail
    go_ret
    exact ⟨rfl, Below.refl _ _⟩

end Go.Proofs.Ytmfdhcnnhlchbaa

namespace Go.Proofs.Ytmfdhcnnhlchbaa
open Go.RowKit Go.Maps

theorem kept_wd {lab : Nat → Nat} {w : World} {y x : Nat} {m : Mod} {L0 L1 : Lg} {r0 r1 : LgAt} {N : Nat} (h : Wd lab w y x m L0 L1 r0 r1 N) (hN : N ≤ 100000) (hc : Cons m L0 L1) :
    Calls Try.prog 8 #[.pointer (some ⟨y, 0, none⟩)] w fun e w' => e = .returned (.bool true) ∧ w.grownBy w' none := kept_ok h.mem (by omega) (h.two.lens0 hN) (h.two.lens1 hN) hc

theorem Play.grow {w wr wr' : World} {y x N : Nat} (h : Play w y x N wr) (g : wr.grownBy wr' none) : Play w y x N wr' := by
  obtain ⟨lab, m, L0, L1, r0, r1, hd, hl, hb, hc⟩ := h
  exact ⟨lab, m, L0, L1, r0, r1, hd.grown g, hl, hb.grown g hb.size (fun k e => by cases e), hc⟩

set_option maxRecDepth 100000 in
set_option maxHeartbeats 1600000 in
theorem conserved_ok (s : ByteArray) (w : World) : Calls Try.prog 4 #[.string s] w fun e w' => e = .returned (.bool true) ∧ Below w.heap.size w w' := by
  obtain ⟨n, hn⟩ : ∃ n, n = s.size := ⟨_, rfl⟩
  have hn' : s.size = n := hn.symm
  by_cases hs : n ≤ 16384
  · have hsz : ¬ (16384 : Int) < (n : Int) := by omega
    have hbeg := begin_wd (w := w)
    have HN : Hid (n = s.size ∧ n ≤ 16384) := ⟨hn, hs⟩
    clear hn hs
    go_enter Try.func4, Try.ntmps4
    go_wp2_with (first
      | (go_at_call 7; refine hbeg.mono ?_; rintro e w1 ⟨x, y, lab, rfl, hd, hl0, g1⟩)
      | (go_at_call 8; refine (kept_wd hd (by omega) cons_new).mono ?_; rintro e w2 ⟨rfl, g2⟩))
    have HP0 : Hid (Play w y x 0 w2) := Play.grow ⟨lab, _, _, _, _, _, hd, hl0, ⟨g1.os, g1.tape, g1.output, g1.size, fun k hk => g1.block k hk (by simp)⟩, cons_new⟩ g2
    clear hd hl0 g1 hbeg g2
    go_loopw [5] (fun vi wr => ∃ q : Nat, vi = .int .i64 ((4 * q : Nat) : Int) ∧ 4 * q ≤ n ∧ Play w y x q wr) (fun vi _ => n + 4 - (intV vi).toNat)
    case atStart => exact ⟨0, rfl, by omega, HP0.out⟩
    case round =>
      obtain ⟨q, rfl, hq, hP⟩ := hrel
      have hle := HN.out.2
      obtain ⟨e, he⟩ : ∃ e, e = 4 * q := ⟨_, rfl⟩
      rw [← he]
      have w3 : IntKind.i64.wrap ((e : Int) + 3) = (e : Int) + 3 := by have := wrap_i (n := e + 3) (by omega); simpa using this
      have w4 : IntKind.i64.wrap ((e : Int) + 4) = (e : Int) + 4 := by have := wrap_i (n := e + 4) (by omega); simpa using this
      by_cases hlt : e + 3 < n
      · have hltz : (e : Int) + 3 < (n : Int) := by omega
        obtain ⟨lab', m', L0, L1, r0, r1, hd, hl, hb, hcn⟩ := hP
        have hmv := move_ok hd (by omega) (s.extract e (e + 4)) (by rw [ByteArray.size_extract, ← HN.out.1]; omega)
        have HH : Hid (e = 4 * q ∧ (∀ k, k < w.heap.size → lab' k = 0) ∧ Below w.heap.size w wr ∧ Cons m' L0 L1) := ⟨he, hl, hb, hcn⟩
        have hq5 : q + 1 ≤ 100000 := by omega
        clear hd hl hb he hcn
        go_wp2_with (first
          | (go_at_call 9; refine hmv.mono ?_; rintro e2 w2' ⟨rfl, hto⟩; obtain ⟨lab2, m2, M0, M1, s0, s1, hd2, st2, hcn2⟩ := id hto)
          | (go_at_call 8; refine (kept_wd hd2 hq5 (hcn2 HH.out.2.2.2)).mono ?_; rintro e3 w3' ⟨rfl, g3⟩))
        go_roundw
        case rel => exact ⟨q + 1, by have := HH.out.1; simp; omega, by have := HH.out.1; omega, (Play.step HH.out.2.1 HH.out.2.2.1 HH.out.2.2.2 hto).grow g3⟩
        case measure => have := HH.out.1; simp [intV]; omega
      · have hltz : ¬ (e : Int) + 3 < (n : Int) := by omega
        have HP : Hid (Below w.heap.size w wr) := by obtain ⟨_, _, _, _, _, _, _, _, hb, _⟩ := hP; exact hb
        clear hP he
        go_wp2_with fail
        go_ret
        exact ⟨rfl, HP.out⟩
  · have hsz : (16384 : Int) < (n : Int) := by omega
    clear hn
    go_enter Try.func4, Try.ntmps4
    go_wp2_with fail
    go_ret
    exact ⟨rfl, Below.refl _ _⟩

end Go.Proofs.Ytmfdhcnnhlchbaa
