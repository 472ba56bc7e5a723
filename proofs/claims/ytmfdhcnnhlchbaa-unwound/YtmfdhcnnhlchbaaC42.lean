import Derived.Test.YtmfdhcnnhlchbaaC41
namespace Go.Proofs.Ytmfdhcnnhlchbaa
open Go.RowKit Go.Maps

/-- A run that comes to its end: chain c is closed, and behind the first round its neighbour too. -/
def Un (w : World) (y x g c d t : Nat) (wr : World) : Prop :=
  ∃ lab m L0 L1 r0 r1 N, Wd lab wr y x m L0 L1 r0 r1 N ∧ (∀ k, k < w.heap.size → lab k = 0) ∧ Below w.heap.size w wr ∧ Cons m L0 L1 ∧ N ≤ 4100 + 5 * t ∧ (chOf m c).hd.isOpen = false ∧ (1 ≤ t → (chOf m d).hd.isOpen = false) ∧
    wr.heap[g]? = some (.cells #[.int .i64 d, .int .i64 c] tInt (0, 0)) ∧ lab g = 0

/-- Both are closed; what is pending is settled, of chain a up to i. -/
def Us (w : World) (y x a i n : Nat) (wr : World) : Prop :=
  ∃ lab m L0 L1 r0 r1 N, Wd lab wr y x m L0 L1 r0 r1 N ∧ (∀ k, k < w.heap.size → lab k = 0) ∧ Below w.heap.size w wr ∧ Cons m L0 L1 ∧ Shut m ∧ N ≤ 4200 + 4200 * a + i ∧ (L0.sent.length ≤ 4200 ∧ L1.sent.length ≤ 4200) ∧
    (∀ j, j < i → (lgOf L0 L1 a).pend[j]? = some false) ∧ (n = (lgOf L0 L1 a).sent.length)

section
variable {lab : Nat → Nat} {w : World} {y x : Nat} {m : Mod} {L0 L1 : Lg} {r0 r1 : LgAt} {N c d : Nat}

theorem close_shuts (hc : c < 2) (p : Pk) : (chOf (doM m c 8 0 p).1 c).hd.isOpen = false := by
  rcases (show c = 0 ∨ c = 1 by omega) with rfl | rfl
  · simp only [doM, if_true, chOf]
    simp only [doC, closeC]
    simp
    split
    · assumption
    · rfl
  · simp only [doM, Nat.one_ne_zero, if_false, chOf]
    simp only [doC, closeC]
    simp
    split
    · assumption
    · rfl

theorem confirm_form (S : Ch) (K : Hd) (n : Int) (p : Pk) (hl : Nat) : doC S 9 n p K hl = confirmC S K := by simp [doC]

theorem confirm_own {S : Ch} {K : Hd} (h : S.hd.isOpen = false ∨ K.isOpen = false) : (confirmC S K).1.hd.isOpen = false := by
  unfold confirmC
  by_cases h1 : S.hd.isOpen = false
  · rw [if_pos h1]; exact h1
  · rw [if_neg h1]
    rcases h with h | h
    · exact absurd h h1
    · rw [h]; rfl

theorem confirm_shuts {e : Nat} (hk0 : knownHd m.c0 m.c1 = m.c1.hd) (hk1 : knownHd m.c1 m.c0 = m.c0.hd) (he : e < 2) (hcd : d + c = 1) (hc : (chOf m c).hd.isOpen = false) (hd : e = d ∨ (chOf m d).hd.isOpen = false) (p : Pk) :
    (chOf (doM m e 9 0 p).1 c).hd.isOpen = false ∧ (chOf (doM m e 9 0 p).1 d).hd.isOpen = false := by
  have h2 : (c = 0 ∧ d = 1) ∨ (c = 1 ∧ d = 0) := by omega
  rcases (show e = 0 ∨ e = 1 by omega) with rfl | rfl
  · simp only [doM, if_true]
    rw [confirm_form, hk0]
    rcases h2 with ⟨rfl, rfl⟩ | ⟨rfl, rfl⟩
    · have hc' : m.c0.hd.isOpen = false := hc
      have hd' : m.c1.hd.isOpen = false := by rcases hd with hd | hd; · omega
                                              · exact hd
      exact ⟨confirm_own (.inl hc'), hd'⟩
    · have hc' : m.c1.hd.isOpen = false := hc
      exact ⟨hc', confirm_own (.inr hc')⟩
  · simp only [doM, Nat.one_ne_zero, if_false]
    rw [confirm_form, hk1]
    rcases h2 with ⟨rfl, rfl⟩ | ⟨rfl, rfl⟩
    · have hc' : m.c0.hd.isOpen = false := hc
      exact ⟨hc', confirm_own (.inr hc')⟩
    · have hc' : m.c1.hd.isOpen = false := hc
      have hd' : m.c0.hd.isOpen = false := by rcases hd with hd | hd; · omega
                                              · exact hd
      exact ⟨confirm_own (.inl hc'), hd'⟩

theorem Meet.open {m' : Mod} (h : Meet m m') (c : Nat) : (chOf m' c).hd.isOpen = (chOf m c).hd.isOpen := by
  unfold chOf
  split
  · exact h.o0
  · exact h.o1

theorem close_at (h : Wd lab w y x m L0 L1 r0 r1 N) (hc : c < 2) (hN : N < 50000) {k : Int} (hk : k = 8 ∨ k = 9) :
    Calls Try.prog 10 #[.pointer (some ⟨x, 0, none⟩), .int .i64 c, agg3 k 0] w fun e w' => e = .returned (.tuple #[.int .u64 (doM m c k 0 pkZ).2.1, .int .i64 (doM m c k 0 pkZ).2.2]) ∧ DoOther lab w y x (doM m c k 0 pkZ).1 L0 L1 r0 r1 (N + 1) w' :=
  do_other h hc hN ⟨by decide, by decide⟩ (by omega) (by omega) (by omega) (by omega) (by omega)

theorem met_cons (hcn : Cons m L0 L1) : Cons (upM (tkM m 2) 2) L0 L1 := by
  refine Eyes.same (S := m.c0) ?_ ⟨rfl, rfl, rfl, rfl, rfl, rfl, rfl, rfl, rfl⟩
  have e := Eyes.same (S := m.c1) (T := (upM (tkM m 2) 2).c1) hcn.flip ⟨rfl, rfl, rfl, rfl, rfl, rfl, rfl, rfl, rfl⟩
  have := e.flip
  simpa using this

theorem other_cons {k : Int} (hcn : Cons m L0 L1) (h2 : Two m.c0 m.c1 L0 L1 N) (hc : c < 2) (hN : N < 100000) (hk : k = 8 ∨ k = 9) : Cons (doM m c k 0 pkZ).1 L0 L1 :=
  (two_other h2 hc hN (Int.le_refl 0) (Int.le_refl 0) (by omega) (by omega) (by omega) (by omega) (by omega)).2 hcn

theorem Us.grow {a i n : Nat} {wr wr' : World} (h : Us w y x a i n wr) (g : wr.grownBy wr' none) : Us w y x a i n wr' := by
  obtain ⟨lab, m, L0, L1, r0, r1, N, hd, hl, hb, hcn, hsh, hNb, hlen, hpre, hn⟩ := h
  exact ⟨lab, m, L0, L1, r0, r1, N, hd.grown g, hl, hb.grown g hb.size (fun k e => by cases e), hcn, hsh, hNb, hlen, hpre, hn⟩

theorem cell_lt {w : World} {a : Addr} {v : Value} (h : w.cell? a = some v) : a.block < w.heap.size := by
  rcases Nat.lt_or_ge a.block w.heap.size with e | e
  · exact e
  · exfalso
    have : w.heap[a.block]? = none := Array.getElem?_eq_none e
    simp [World.cell?, this] at h

theorem us_next {a i n : Nat} {wr wZ w3 w4 w5 : World} {lab lab3 lab4 : Nat → Nat} {m' : Mod} {s0 s1 : LgAt} (_h : Us w y x a i n wr) (gZ : wr.grownBy wZ none) (st3 : StepW (labN lab wr.heap.size) lab3 wZ.drew w3) (st4 : StepW lab3 lab4 w3 w4) (g5 : w4.grownBy w5 none)
    (h4 : Wm lab4 w4 y x m' (put0 a L0 ((lgOf L0 L1 a).done i)) (put1 a L1 ((lgOf L0 L1 a).done i)) s0 s1 (6 + 4 * N + 4)) (hsh : Shut m' ∧ 0 ≤ m'.taken ∧ m'.taken ≤ N + 1) (htw : Two m'.c0 m'.c1 (put0 a L0 ((lgOf L0 L1 a).done i)) (put1 a L1 ((lgOf L0 L1 a).done i)) (N + 1)) (hcn : Cons m' (put0 a L0 ((lgOf L0 L1 a).done i)) (put1 a L1 ((lgOf L0 L1 a).done i)))
    (hh : (∀ k, k < w.heap.size → lab k = 0) ∧ Below w.heap.size w wr ∧ N ≤ 4200 + 4200 * a + i ∧ (L0.sent.length ≤ 4200 ∧ L1.sent.length ≤ 4200) ∧ (∀ j, j < i → (lgOf L0 L1 a).pend[j]? = some false) ∧ n = (lgOf L0 L1 a).sent.length ∧ i < (lgOf L0 L1 a).pend.length) (ha : a < 2) : Us w y x a (i + 1) n w5 := by
  obtain ⟨hl, hb, hNb, hlen, hpre, hn, hip⟩ := hh
  have st : StepW lab lab4 wr w5 := (StepW.ofG (lab' := labN lab wr.heap.size) (grown_drew gZ) (fun k hk => labN_old hk)).trans (st3.trans (st4.trans (StepW.ofG g5 (fun _ _ => rfl))))
  have hd5 : Wd lab4 w5 y x m' (put0 a L0 ((lgOf L0 L1 a).done i)) (put1 a L1 ((lgOf L0 L1 a).done i)) s0 s1 (N + 1) := Wm.wd (by rw [show 6 + 4 * (N + 1) = 6 + 4 * N + 4 by omega]; exact h4.grown g5) htw (by simpa using hsh.2)
  have hlg : lgOf (put0 a L0 ((lgOf L0 L1 a).done i)) (put1 a L1 ((lgOf L0 L1 a).done i)) a = (lgOf L0 L1 a).done i := by
    rcases (show a = 0 ∨ a = 1 by omega) with rfl | rfl <;> rfl
  refine ⟨lab4, m', _, _, s0, s1, N + 1, hd5, fun k hk => (st.label k (Nat.lt_of_lt_of_le hk hb.size)).trans (hl k hk), hb.trans (st.below hb.size hl), hcn, hsh.1, by omega, ?_, ?_, ?_⟩
  · rcases (show a = 0 ∨ a = 1 by omega) with rfl | rfl
    · exact ⟨hlen.1, hlen.2⟩
    · exact ⟨hlen.1, hlen.2⟩
  · intro j hj
    rw [hlg]
    simp only [Lg.done, List.getElem?_set]
    by_cases e : i = j
    · subst e; rw [if_pos rfl, if_pos hip]
    · rw [if_neg e]; exact hpre j (by omega)
  · rw [hlg]; exact hn

set_option maxRecDepth 100000 in
set_option maxHeartbeats 6400000 in
theorem unwound_ok (s : ByteArray) (f : Int) (w : World) : Calls Try.prog 5 #[.string s, .int .i64 f] w fun e w' => e = .returned (.bool true) ∧ Below w.heap.size w w' := by
  obtain ⟨n, hn⟩ : ∃ n, n = s.size := ⟨_, rfl⟩
  have hn' : s.size = n := hn.symm
  by_cases hs : n ≤ 16384
  · have hsz : ¬ (16384 : Int) < (n : Int) := by omega
    have hp := play_ok (w := w) s (by omega)
    clear hn hs
    obtain ⟨f2, ef2⟩ : ∃ f2, f2 = f.tmod 2 := ⟨_, rfl⟩
    have hf2 : f2 = -1 ∨ f2 = 0 ∨ f2 = 1 := by
      have h1 := Int.tmod_lt_of_pos f (show (0 : Int) < 2 by decide)
      have h2 : -2 < f.tmod 2 := by
        rcases Int.le_total 0 f with h | h
        · have := Int.tmod_nonneg 2 h; omega
        · have h3 := Int.neg_tmod (a := -f) (b := 2)
          have h4 := Int.tmod_lt_of_pos (-f) (show (0 : Int) < 2 by decide)
          rw [Int.neg_neg] at h3
          omega
      omega
    have tf : f.tmod 2 = f2 := ef2.symm
    have wf : IntKind.i64.wrap (f2 + 2) = f2 + 2 := by rcases hf2 with rfl | rfl | rfl <;> decide
    obtain ⟨c, hc, tc⟩ : ∃ c : Nat, c < 2 ∧ (f2 + 2).tmod 2 = (c : Int) := by
      rcases hf2 with rfl | rfl | rfl
      · exact ⟨1, by decide, by decide⟩
      · exact ⟨0, by decide, by decide⟩
      · exact ⟨1, by decide, by decide⟩
    clear hf2 ef2
    obtain ⟨d, hcd⟩ : ∃ d, d + c = 1 := ⟨1 - c, by omega⟩
    have wd : IntKind.i64.wrap (1 - (c : Int)) = (d : Int) := by rw [show (1 : Int) - (c : Int) = (d : Int) by omega]; exact wrap_i (by omega)
    have HCD : Hid (d + c = 1) := hcd
    clear hcd
    go_enter Try.func5, Try.ntmps5
    go_upto_region 7 with (go_at_call 6; refine hp.mono ?_; rintro e w1 ⟨x, y, N, rfl, hN, lab, m, L0, L1, r0, r1, hd, hl, hb, hcn⟩)
    have hdo := close_at hd hc (by omega) (.inl rfl)
    obtain ⟨y0, _, _, _, yf⟩ := hd.mem.cells hc
    have hyl := blk_lt hd.blk
    have HA : Hid ((∀ k, k < w.heap.size → lab k = 0) ∧ Below w.heap.size w w1 ∧ Cons (doM m c 8 0 pkZ).1 L0 L1 ∧ (chOf (doM m c 8 0 pkZ).1 c).hd.isOpen = false) := ⟨hl, hb, other_cons hcn hd.two hc (by omega) (.inl rfl), close_shuts hc pkZ⟩
    clear hp hd hl hb hcn
    obtain ⟨m1, em1⟩ : ∃ m1, m1 = (doM m c 8 0 pkZ).1 := ⟨_, rfl⟩
    obtain ⟨q1, eq1⟩ : ∃ q1, q1 = (doM m c 8 0 pkZ).2.1 := ⟨_, rfl⟩
    obtain ⟨q2, eq2⟩ : ∃ q2, q2 = (doM m c 8 0 pkZ).2.2 := ⟨_, rfl⟩
    rw [← em1, ← eq1, ← eq2] at hdo
    rw [← em1] at HA
    clear em1 eq1 eq2
    go_upto_region 8 with (go_at_call 10; refine hdo.mono ?_; rintro e w2 ⟨rfl, lab2, hd2, st2⟩)
    clear hdo y0 yf
    obtain ⟨wA, hwA⟩ : ∃ wA : World, wA = w2.alloc (.cells #[.int .i64 d, .int .i64 c] tInt) := ⟨_, rfl⟩
    obtain ⟨g, hg⟩ : ∃ g, g = w2.heap.size := ⟨_, rfl⟩
    have gA : w2.grownBy wA none := by rw [hwA]; exact World.grownBy_alloc _ _ _
    have hU : Un w y x g c d 0 wA := by
      have hb2 := HA.out.2.1.trans (st2.below HA.out.2.1.size HA.out.1)
      refine ⟨labN lab2 w2.heap.size, m1, L0, L1, r0, r1, N + 1, hd2.fresh gA, fun k hk => ?_, hb2.grown gA hb2.size (fun k e => by cases e), HA.out.2.2.1, by omega, HA.out.2.2.2, fun e => by omega, by rw [hwA, hg]; exact heap_alloc_new w2 _, by rw [hg]; exact labN_new (Nat.le_refl _)⟩
      have hk2 := Nat.lt_of_lt_of_le hk hb2.size
      rw [labN_old hk2, st2.label k (Nat.lt_of_lt_of_le hk HA.out.2.1.size)]
      exact HA.out.1 k hk
    have HU : Hid (Un w y x g c d 0 wA) := hU
    clear hU hd2 st2 gA HA
    go_upto_block 0 with fail
    rw [← hwA, ← hg]
    clear hwA hg
    go_wp2_with fail
    go_loopw [43] (fun vt wr => ∃ t : Nat, vt = .int .i64 t ∧ t ≤ 2 ∧ Un w y x g c d t wr) (fun vt _ => 3 - (intV vt).toNat)
    case atStart => exact ⟨0, rfl, by omega, HU.out⟩
    case round =>
      obtain ⟨t, rfl, ht, lab, m, L0, L1, r0, r1, N, hd, hl, hb, hcn, hNt, hco, hdo, hgb, hgl⟩ := hrel
      by_cases ht2 : t < 2
      · have htz : (t : Int) < 2 := by omega
        have ht0 : (0 : Int) ≤ (t : Int) := by omega
        have tw := wrap_i (n := t + 1) (by omega)
        obtain ⟨e, he2, hed, ecell⟩ : ∃ e : Nat, e < 2 ∧ (e = d ∨ (chOf (upM (tkM m 2) 2) d).hd.isOpen = false) ∧ wr.cell? ⟨g, t, none⟩ = some (.int .i64 e) := by
          obtain ⟨a, b, _⟩ := blk2c hgb
          have := HCD.out
          rcases (show t = 0 ∨ t = 1 by omega) with rfl | rfl
          · exact ⟨d, by omega, .inl rfl, a⟩
          · exact ⟨c, hc, .inr (((meet_is hd.num).open d).trans (hdo (Nat.le_refl 1))), b⟩
        have hgf : ∀ k, wr.frozen? ⟨g, k, none⟩ = false := (blk2c hgb).2.2
        have hgsz := blk_lt hgb
        have hmt := meet_ok hd (by omega)
        have HR : Hid ((∀ k, k < w.heap.size → lab k = 0) ∧ Below w.heap.size w wr ∧ N ≤ 4100 + 5 * t ∧ wr.heap[g]? = some (.cells #[.int .i64 d, .int .i64 c] tInt (0, 0)) ∧ lab g = 0) := ⟨hl, hb, hNt, hgb, hgl⟩
        have HQ : Hid (Cons (upM (tkM m 2) 2) L0 L1 ∧ (chOf (upM (tkM m 2) 2) c).hd.isOpen = false ∧ Meet m (upM (tkM m 2) 2)) := ⟨met_cons hcn, ((meet_is hd.num).open c).trans hco, meet_is hd.num⟩
        have HED : Hid (e = d ∨ (chOf (upM (tkM m 2) 2) d).hd.isOpen = false) := hed
        clear hd hl hb hcn hco hdo hgb hgl hNt hed
        obtain ⟨m2, em2⟩ : ∃ m2, m2 = upM (tkM m 2) 2 := ⟨_, rfl⟩
        unfold MetTo at hmt
        rw [← em2] at hmt HQ HED
        clear em2
        go_upto_region 13 with (go_at_call 11; refine hmt.mono ?_; rintro e1 w2 ⟨rfl, lab2, hd2, st2⟩)
        have hN2 : N + 4 < 50000 := by have := HR.out.2.2.1; omega
        have hdo := close_at hd2 he2 hN2 (.inr rfl)
        obtain ⟨y0, _, _, _, yf⟩ := hd2.mem.cells hc
        have hyl2 := blk_lt hd2.blk
        have HV : Hid (StepW lab lab2 wr w2 ∧ Cons (doM m2 e 9 0 pkZ).1 L0 L1 ∧ ((chOf (doM m2 e 9 0 pkZ).1 c).hd.isOpen = false ∧ (chOf (doM m2 e 9 0 pkZ).1 d).hd.isOpen = false)) := ⟨st2, other_cons HQ.out.1 hd2.two he2 (by omega) (.inr rfl), confirm_shuts HQ.out.2.2.k0 HQ.out.2.2.k1 he2 HCD.out HQ.out.2.1 HED.out pkZ⟩
        clear hd2 st2 hmt
        obtain ⟨m3, em3⟩ : ∃ m3, m3 = (doM m2 e 9 0 pkZ).1 := ⟨_, rfl⟩
        obtain ⟨q3, eq3⟩ : ∃ q1, q1 = (doM m2 e 9 0 pkZ).2.1 := ⟨_, rfl⟩
        obtain ⟨q4, eq4⟩ : ∃ q2, q2 = (doM m2 e 9 0 pkZ).2.2 := ⟨_, rfl⟩
        rw [← em3, ← eq3, ← eq4] at hdo
        rw [← em3] at HV
        clear em3 eq3 eq4
        go_wp2_with (go_at_call 10; refine hdo.mono ?_; rintro e1 w3 ⟨rfl, lab3, hd3, st3⟩)
        go_roundw
        case rel =>
          obtain ⟨hl, hb, hNt, hgb, hgl⟩ := HR.out
          have st : StepW lab lab3 wr w3 := HV.out.1.trans st3
          exact ⟨t + 1, by simp, by omega, lab3, m3, L0, L1, r0, r1, N + 4 + 1, hd3, fun k hk => (st.label k (Nat.lt_of_lt_of_le hk hb.size)).trans (hl k hk), hb.trans (st.below hb.size hl), HV.out.2.1, by omega, HV.out.2.2.1, fun _ => HV.out.2.2.2, (st.block g hgsz hgl).trans hgb, (st.label g hgsz).trans hgl⟩
        case measure => simp [intV]; omega
      · have hte : t = 2 := by omega
        subst hte
        rw [show ((2 : Nat) : Int) = 2 from rfl]
        have hmt := meet_ok hd (by omega)
        have hsh : Shut (upM (tkM m 2) 2) := by
          have hcd := HCD.out
          have h1 := hdo (by omega)
          rcases (show (c = 0 ∧ d = 1) ∨ (c = 1 ∧ d = 0) by omega) with ⟨rfl, rfl⟩ | ⟨rfl, rfl⟩
          · exact (meet_is hd.num).shut hco h1
          · exact (meet_is hd.num).shut h1 hco
        have hlen : L0.sent.length ≤ 4200 ∧ L1.sent.length ≤ 4200 := ⟨by have := hd.two.rs.s; omega, by have := hd.two.ro.s; omega⟩
        have HR : Hid ((∀ k, k < w.heap.size → lab k = 0) ∧ Below w.heap.size w wr ∧ N ≤ 4110 ∧ Cons (upM (tkM m 2) 2) L0 L1 ∧ Shut (upM (tkM m 2) 2) ∧ (L0.sent.length ≤ 4200 ∧ L1.sent.length ≤ 4200)) := ⟨hl, hb, by omega, met_cons hcn, hsh, hlen⟩
        clear hd hl hb hcn hco hdo hgb hgl hNt hsh hlen
        obtain ⟨m2, em2⟩ : ∃ m2, m2 = upM (tkM m 2) 2 := ⟨_, rfl⟩
        unfold MetTo at hmt
        rw [← em2] at hmt HR
        clear em2
        go_upto_block 2 with (go_at_call 11; refine hmt.mono ?_; rintro e1 w2 ⟨rfl, lab2, hd2, st2⟩)
        have hS : Us w y x 0 0 (lgOf L0 L1 0).sent.length w2 := by
          obtain ⟨hl, hb, hN4, hcn, hsh, hlen⟩ := HR.out
          exact ⟨lab2, m2, L0, L1, r0, r1, N + 4, hd2, fun k hk => (st2.label k (Nat.lt_of_lt_of_le hk hb.size)).trans (hl k hk), hb.trans (st2.below hb.size hl), hcn, hsh, by omega, hlen, fun j hj => by omega, rfl⟩
        have HS : Hid (∃ n, Us w y x 0 0 n w2) := ⟨_, hS⟩
        clear hS hd2 st2 hmt
        go_wp2_with fail
        go_loopw [61] (fun va wr => ∃ a : Nat, va = .int .i64 a ∧ a ≤ 2 ∧ ∃ n, Us w y x a 0 n wr) (fun va _ => 3 - (intV va).toNat)
        case atStart => exact ⟨0, rfl, by omega, HS.out⟩
        case round =>
          obtain ⟨a, rfl, ha, n0, hUs⟩ := hrel
          by_cases ha2 : a < 2
          · have haz : (a : Int) < 2 := by omega
            have ha0 : (0 : Int) ≤ (a : Int) := by omega
            have aw := wrap_i (n := a + 1) (by omega)
            have HUs : Hid (Us w y x a 0 n0 wr) := hUs
            obtain ⟨lab, m, L0, L1, r0, r1, N, hd, hl, hb, hcn, hsh, hNb, hlen, hpre, hn0⟩ := hUs
            obtain ⟨y0, y1, y2, y3, yf⟩ := hd.mem.cells ha2
            simp only [Lg.vs] at y1
            rw [← hn0] at y1
            have hn5 : n0 ≤ 4200 := by
              rw [hn0]
              by_cases e : a = 0
              · simp only [lgOf, if_pos e]; exact hlen.1
              · simp only [lgOf, if_neg e]; exact hlen.2
            obtain ⟨as', eas⟩ : ∃ z, z = (atOf r0 r1 a).s := ⟨_, rfl⟩
            obtain ⟨cs', ecs⟩ : ∃ z, z = (atOf r0 r1 a).cs := ⟨_, rfl⟩
            rw [← eas, ← ecs] at y1
            have hyl2 := blk_lt hd.blk
            clear hd hl hb hcn hsh hNb hlen hpre hn0 eas ecs y2 y3
            go_wp2_with fail
            clear y0 y1 yf
            go_loopw [71] (fun vi wi => ∃ i : Nat, vi = .int .i64 i ∧ i ≤ n0 ∧ Us w y x a i n0 wi) (fun vi _ => n0 + 1 - (intV vi).toNat)
            case atStart => exact ⟨0, rfl, by omega, HUs.out⟩
            case round =>
              obtain ⟨i, rfl, hi, hUi⟩ := hrel
              have HR : Hid (Us w y x a i n0 wr) := hUi
              obtain ⟨lab, m, L0, L1, r0, r1, N, hd, hl, hb, hcn, hsh, hNb, hlen, hpre, hn0⟩ := hUi
              by_cases hin : i < n0
              · have hinz : (i : Int) < (n0 : Int) := by omega
                have hi00 : (0 : Int) ≤ (i : Int) := by omega
                have hl0 := hd.two.lens0 (by omega)
                have hl1 := hd.two.lens1 (by omega)
                have hlens := lens_of hl0 hl1 a
                obtain ⟨q, hq⟩ : ∃ q, (lgOf L0 L1 a).sent[i]? = some q := ⟨_, List.getElem?_eq_getElem (by omega)⟩
                obtain ⟨v, hv⟩ : ∃ v, (lgOf L0 L1 a).ans[i]? = some v := ⟨_, List.getElem?_eq_getElem (by have := hlens.a; omega)⟩
                obtain ⟨b, hbp⟩ : ∃ b, (lgOf L0 L1 a).pend[i]? = some b := ⟨_, List.getElem?_eq_getElem (by have := hlens.p; omega)⟩
                obtain ⟨N', gs, cs, ga, ca, gp, cp, hN', _, _, _, S⟩ := hd.mem.see ha2 hlens hv hbp
                rw [← hn0] at hN'
                rw [hN'] at S
                clear hN'
                obtain ⟨ys, ya, yp, _, yf, va, vaf, vp, vpf, _, _⟩ := S
                have hyl2 := blk_lt hd.blk
                obtain ⟨e1, he1⟩ : ∃ e1 : Int, e1 = (i : Int) + 1 := ⟨_, rfl⟩
                have iw : IntKind.i64.wrap ((i : Int) + 1) = e1 := by rw [he1]; have := wrap_i (n := i + 1) (by omega); simpa using this
                cases b with
                | false =>
                  have HE : Hid (e1 = (i : Int) + 1 ∧ (lgOf L0 L1 a).pend[i]? = some false) := ⟨he1, hbp⟩
                  have HN : Hid (Us w y x a (i + 1) n0 wr) := ⟨lab, m, L0, L1, r0, r1, N, hd, hl, hb, hcn, hsh, by omega, hlen, fun j hj => by
                    rcases Nat.lt_or_ge j i with e | e
                    · exact hpre j e
                    · rw [show j = i by omega]; exact hbp, hn0⟩
                  clear hd hl hb hcn hsh hlen hpre hn0 he1 hq hv hbp hl0 hl1 hlens
                  go_wp2_with fail
                  go_roundw
                  case rel => exact ⟨i + 1, by rw [HE.out.1]; simp, by omega, HN.out⟩
                  case measure => rw [HE.out.1]; simp [intV]; omega
                | true =>
                  have uw : IntKind.u64.wrap e1 = e1 := by rw [he1, IntKind.wrap_u64]; omega
                  obtain ⟨sok, ssh, stk, stw, scn⟩ := settle hd.two (by omega) hsh ha2 hq hbp hv hpre (p := pkZ) (Int.le_refl 0)
                  obtain ⟨z, ez⟩ : ∃ z, z = wr.heap.size := ⟨_, rfl⟩
                  obtain ⟨wA, hwA⟩ : ∃ wA : World, wA = wr.alloc (.cells (stepArr 7 e1 pkZ) tStep) := ⟨_, rfl⟩
                  obtain ⟨wZ, hwZ⟩ : ∃ wZ : World, wZ = if v = 0 then wA else wA.setCell ⟨z, 0, none⟩ (.int .i64 5) := ⟨_, rfl⟩
                  obtain ⟨kd, ekd⟩ : ∃ kd, kd = settleK v := ⟨_, rfl⟩
                  have gA : wr.grownBy wA none := by rw [hwA]; exact World.grownBy_alloc _ _ _
                  have hZA : wA.heap[z]? = some (.cells (stepArr 7 e1 pkZ) tStep (0, 0)) := by rw [hwA, ez]; exact heap_alloc_new wr _
                  have gZ : wr.grownBy wZ none := by
                    rw [hwZ]
                    split
                    · exact gA
                    · exact grown_set gA _ _ (.inr (by rw [ez]; exact Nat.le_refl _))
                  have hZ : wZ.heap[z]? = some (.cells (stepArr kd e1 pkZ) tStep (0, 0)) := by
                    rw [hwZ, ekd]
                    unfold settleK
                    by_cases e : v = 0
                    · rw [if_pos e, if_pos e]; exact hZA
                    · rw [if_neg e, if_neg e]; exact set_kind hZA
                  have wv1 : v = 0 → wA = wZ := fun e => by rw [hwZ, if_pos e]
                  have wv2 : ¬ v = 0 → wA.setCell ⟨z, 0, none⟩ (.int .i64 5) = wZ := fun e => by rw [hwZ, if_neg e]
                  have hdZ := (hd.fresh gZ).grown (grown_drew (grown_refl wZ none))
                  have hdo := do_at (k := kd) (n := e1) hdZ.mem ha2 (by omega) ⟨hd.tk.1, by have := hd.tk.2; omega⟩ ⟨by omega, by omega⟩ pkZ
                  have htk5 := doM_taken (c := a) (k := kd) (n := e1) (p := pkZ) hd.tk
                  rw [← ekd, ← he1] at sok ssh stk stw scn
                  rw [sok] at hdo
                  obtain ⟨m', em'⟩ : ∃ m', m' = (doM m a kd e1 pkZ).1 := ⟨_, rfl⟩
                  obtain ⟨sq, esq⟩ : ∃ sq, sq = (doM m a kd e1 pkZ).2.1 := ⟨_, rfl⟩
                  rw [← em', ← esq] at hdo
                  rw [← em'] at ssh stk stw scn htk5
                  have keep3 : Hid (∀ w3, DoTo (labN lab wr.heap.size) wZ.drew y x m' L0 L1 r0 r1 (6 + 4 * N + 4) w3 → w3.heap[z]? = some (.cells (stepArr kd e1 pkZ) tStep (0, 0)) ∧ w3.cell? ⟨y, 0, none⟩ = some (.pointer (some ⟨x, 0, none⟩))) := by
                    rintro w3 ⟨lab3, h3, st3⟩
                    exact ⟨(st3.block z (blk_lt hZ) (labN_new (by rw [ez]; exact Nat.le_refl _))).trans hZ, (h3.cells ha2).1⟩
                  have hdm := hd.mem
                  have hgal := cell_lt va
                  have vaA : wA.cell? ⟨ga, i, none⟩ = some (.int .i64 v) := by
                    have : wA.heap[ga]? = wr.heap[ga]? := gA.block ga hgal (by simp)
                    simpa only [World.cell?, this] using va
                  obtain ⟨_, _, ya2, _, yfA⟩ := (hdm.grown gA).cells ha2
                  obtain ⟨_, _, ya3, _, _⟩ := hdm.cells ha2
                  have yaA : wA.cell? ⟨y, 3 + a, none⟩ = some (.slice (some ⟨ga, 0, none⟩) n0 ca) := by rw [ya2, ← ya3]; exact ya
                  have HX : Hid ((Shut m' ∧ 0 ≤ m'.taken ∧ m'.taken ≤ N + 1) ∧ Took a kd e1 pkZ 0 m' L0 L1 (put0 a L0 ((lgOf L0 L1 a).done i)) (put1 a L1 ((lgOf L0 L1 a).done i)) ∧ Two m'.c0 m'.c1 (put0 a L0 ((lgOf L0 L1 a).done i)) (put1 a L1 ((lgOf L0 L1 a).done i)) (N + 1) ∧ Cons m' (put0 a L0 ((lgOf L0 L1 a).done i)) (put1 a L1 ((lgOf L0 L1 a).done i)) ∧ ((∀ k, k < w.heap.size → lab k = 0) ∧ Below w.heap.size w wr ∧ N ≤ 4200 + 4200 * a + i ∧ (L0.sent.length ≤ 4200 ∧ L1.sent.length ≤ 4200) ∧ (∀ j, j < i → (lgOf L0 L1 a).pend[j]? = some false) ∧ n0 = (lgOf L0 L1 a).sent.length ∧ i < (lgOf L0 L1 a).pend.length) ∧ Lens L0 ∧ Lens L1 ∧ Lens (put0 a L0 ((lgOf L0 L1 a).done i)) ∧ Lens (put1 a L1 ((lgOf L0 L1 a).done i)) ∧ e1 = (i : Int) + 1) :=
                    ⟨⟨ssh, htk5⟩, stk, stw, scn hcn, ⟨hl, hb, hNb, hlen, hpre, hn0, lt_of_some hbp⟩, hl0, hl1, stw.lens0 (by omega), stw.lens1 (by omega), he1⟩
                  have hkdN : 6 + 4 * N + 4 ≤ 8000000 := by omega
                  have HWV : Hid ((v = 0 → wA = wZ) ∧ (¬ v = 0 → wA.setCell ⟨z, 0, none⟩ (.int .i64 5) = wZ) ∧ wA = wr.alloc (.cells (stepArr 7 e1 pkZ) tStep) ∧ z = wr.heap.size) := ⟨wv1, wv2, hwA, ez⟩
                  clear wv1 wv2 hwA hwZ ez
                  clear sok ssh stk stw scn htk5 hdZ em' esq ekd he1 hd hl hb hcn hsh hNb hlen hpre hn0 hq hv hbp hl0 hl1 hlens ya2 ya3
                  by_cases hv0 : v = 0
                  · go_upto_region 25 with fail
                    rw [← HWV.out.2.2.2, ← HWV.out.2.2.1]
                    go_upto_region 27 with fail
                    rw [HWV.out.1 hv0]
                    obtain ⟨x0, x1, x2, x3, x4, x5, x6, x7, x8, xf⟩ := blk9c hZ
                    obtain ⟨y0, _, _, _, yf⟩ := (hdm.grown gZ).cells ha2
                    have hzl := blk_lt hZ
                    have hylZ := blk_lt (hdm.grown gZ).blk
                    go_region_held3 (fun w' => w'.cell? ⟨y, 0, none⟩ = some (.pointer (some ⟨x, 0, none⟩)) ∧ w'.cell? ⟨z, 0, none⟩ = some (.int .i64 kd) ∧ w'.cell? ⟨z, 1, none⟩ = some (.int .u64 e1) ∧ w'.cell? ⟨z, 2, none⟩ = some (.int .u64 0) ∧ w'.cell? ⟨z, 3, none⟩ = some (.int .i64 0) ∧ w'.cell? ⟨z, 4, none⟩ = some (.int .i64 0) ∧ w'.cell? ⟨z, 5, none⟩ = some (.int .i64 0) ∧ w'.cell? ⟨z, 6, none⟩ = some (.int .u64 0) ∧ w'.cell? ⟨z, 7, none⟩ = some (.int .u64 0) ∧ w'.cell? ⟨z, 8, none⟩ = some (.int .u64 0)) (go_keep)
                      (first
                        | (go_at_call 10; refine hdo.mono ?_; rintro e2 w3 ⟨rfl, hto⟩; obtain ⟨k8, ky⟩ := keep3.out _ hto; obtain ⟨v0, v1, v2, v3, v4, v5, v6, v7, v8, vf⟩ := blk9c k8))
                    clear x0 x1 x2 x3 x4 x5 x6 x7 x8 xf
                    obtain ⟨lab3, h3, st3⟩ := hto
                    have htk := took_all h3 ha2 (by omega) HX.out.2.2.2.2.2.1 HX.out.2.2.2.2.2.2.1 HX.out.2.1
                    have hz3 := blk_lt k8
                    go_wp2_with (first
                      | (go_at_call 12; refine htk.mono ?_; rintro e2 w4 ⟨rfl, lab4, s0, s1, h4, st4⟩)
                      | (go_at_call 8; refine (kept_ok h4 (by omega) HX.out.2.2.2.2.2.2.2.1 HX.out.2.2.2.2.2.2.2.2.1 HX.out.2.2.2.1).mono ?_; rintro e3 w5 ⟨rfl, g5⟩))
                    go_roundw
                    case rel =>
                      refine ⟨i + 1, by rw [HX.out.2.2.2.2.2.2.2.2.2]; simp, by omega, ?_⟩
                      exact us_next HR.out gZ (StepW.ofB st3) st4 g5 h4 HX.out.1 HX.out.2.2.1 HX.out.2.2.2.1 HX.out.2.2.2.2.1 ha2
                    case measure => rw [HX.out.2.2.2.2.2.2.2.2.2]; simp [intV]; omega
                  · go_upto_region 25 with fail
                    rw [← HWV.out.2.2.2, ← HWV.out.2.2.1]
                    obtain ⟨x0, _, _, _, _, _, _, _, _, xf⟩ := blk9c hZA
                    go_upto_region 27 with fail
                    rw [HWV.out.2.1 hv0]
                    obtain ⟨x0, x1, x2, x3, x4, x5, x6, x7, x8, xf⟩ := blk9c hZ
                    obtain ⟨y0, _, _, _, yf⟩ := (hdm.grown gZ).cells ha2
                    have hzl := blk_lt hZ
                    have hylZ := blk_lt (hdm.grown gZ).blk
                    go_region_held3 (fun w' => w'.cell? ⟨y, 0, none⟩ = some (.pointer (some ⟨x, 0, none⟩)) ∧ w'.cell? ⟨z, 0, none⟩ = some (.int .i64 kd) ∧ w'.cell? ⟨z, 1, none⟩ = some (.int .u64 e1) ∧ w'.cell? ⟨z, 2, none⟩ = some (.int .u64 0) ∧ w'.cell? ⟨z, 3, none⟩ = some (.int .i64 0) ∧ w'.cell? ⟨z, 4, none⟩ = some (.int .i64 0) ∧ w'.cell? ⟨z, 5, none⟩ = some (.int .i64 0) ∧ w'.cell? ⟨z, 6, none⟩ = some (.int .u64 0) ∧ w'.cell? ⟨z, 7, none⟩ = some (.int .u64 0) ∧ w'.cell? ⟨z, 8, none⟩ = some (.int .u64 0)) (go_keep)
                      (first
                        | (go_at_call 10; refine hdo.mono ?_; rintro e2 w3 ⟨rfl, hto⟩; obtain ⟨k8, ky⟩ := keep3.out _ hto; obtain ⟨v0, v1, v2, v3, v4, v5, v6, v7, v8, vf⟩ := blk9c k8))
                    clear x0 x1 x2 x3 x4 x5 x6 x7 x8 xf
                    obtain ⟨lab3, h3, st3⟩ := hto
                    have htk := took_all h3 ha2 (by omega) HX.out.2.2.2.2.2.1 HX.out.2.2.2.2.2.2.1 HX.out.2.1
                    have hz3 := blk_lt k8
                    go_wp2_with (first
                      | (go_at_call 12; refine htk.mono ?_; rintro e2 w4 ⟨rfl, lab4, s0, s1, h4, st4⟩)
                      | (go_at_call 8; refine (kept_ok h4 (by omega) HX.out.2.2.2.2.2.2.2.1 HX.out.2.2.2.2.2.2.2.2.1 HX.out.2.2.2.1).mono ?_; rintro e3 w5 ⟨rfl, g5⟩))
                    go_roundw
                    case rel =>
                      refine ⟨i + 1, by rw [HX.out.2.2.2.2.2.2.2.2.2]; simp, by omega, ?_⟩
                      exact us_next HR.out gZ (StepW.ofB st3) st4 g5 h4 HX.out.1 HX.out.2.2.1 HX.out.2.2.2.1 HX.out.2.2.2.2.1 ha2
                    case measure => rw [HX.out.2.2.2.2.2.2.2.2.2]; simp [intV]; omega
              · have hie : i = n0 := by omega
                have hinz : ¬ (i : Int) < (n0 : Int) := by omega
                have hemp : (chOf m a).hd.packets = [] ∧ (chOf m a).hd.isOpen = false := by
                  rcases (show a = 0 ∨ a = 1 by omega) with rfl | rfl
                  · exact ⟨none_left hd.two.out (fun j hj => hpre j (by rw [hie, hn0]; exact hj)), hsh.o0⟩
                  · exact ⟨none_left hd.two.back (fun j hj => hpre j (by rw [hie, hn0]; exact hj)), hsh.o1⟩
                have hlk := look_at hd.mem ha2 (by omega)
                obtain ⟨S, eS⟩ : ∃ S, S = chOf m a := ⟨_, rfl⟩
                rw [← eS] at hlk hemp
                have hpl : S.hd.packets.length = 0 := by rw [hemp.1]; rfl
                have ho : S.hd.isOpen = false := hemp.2
                obtain ⟨y0, _, _, _, yf⟩ := hd.mem.cells ha2
                have hyl3 := blk_lt hd.blk
                have HK : Hid (Us w y x (a + 1) 0 (lgOf L0 L1 (a + 1)).sent.length wr) := ⟨lab, m, L0, L1, r0, r1, N, hd, hl, hb, hcn, hsh, by omega, hlen, fun j hj => by omega, rfl⟩
                clear hd hl hb hcn hsh hNb hlen hpre hn0 eS hemp hie
                go_wp2_with (go_at_call 13; refine hlk.mono ?_; rintro e2 w3 ⟨kh, al, cl, rfl, g3⟩)
                go_roundw
                case rel => exact ⟨a + 1, by simp, by omega, _, HK.out.grow (grown_alloc g3 _)⟩
                case measure => simp [intV]; omega
          · have hae : a = 2 := by omega
            subst hae
            obtain ⟨lab, m, L0, L1, r0, r1, N, hd, hl, hb, hcn, hsh, hNb, hlen, hpre, hn0⟩ := hUs
            have hkp := kept_wd hd (by omega) hcn
            have HB : Hid (Below w.heap.size w wr) := hb
            clear hd hl hb hcn hsh hNb hlen hpre hn0
            rw [show ((2 : Nat) : Int) = 2 from rfl]
            go_wp2_with (go_at_call 8; refine hkp.mono ?_; rintro e3 w5 ⟨rfl, g5⟩)
            go_ret
            exact ⟨rfl, HB.out.grown g5 HB.out.size (fun k e => by cases e)⟩
  · have hsz : (16384 : Int) < (n : Int) := by omega
    clear hn
    go_enter Try.func5, Try.ntmps5
    go_wp2_with fail
    go_ret
    exact ⟨rfl, Below.refl _ _⟩

end

end Go.Proofs.Ytmfdhcnnhlchbaa
