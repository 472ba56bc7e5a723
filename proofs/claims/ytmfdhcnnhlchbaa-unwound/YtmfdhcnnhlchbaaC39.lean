import Derived.Test.YtmfdhcnnhlchbaaC38
import Derived.Test.YtmfdhcnnhlchbaaC37
namespace Go.Proofs.Ytmfdhcnnhlchbaa
open Go.RowKit Go.Maps

section
variable {lab : Nat → Nat} {w : World} {y x : Nat} {m : Mod} {L0 L1 : Lg} {r0 r1 : LgAt} {N c : Nat} {k n : Int} {p : Pk}

theorem two_other (h : Two m.c0 m.c1 L0 L1 N) (hc : c < 2) (hN : N < 100000) (hn : 0 ≤ n) (hp : 0 ≤ p.amount) (h1 : ¬ k = 1) (h4 : ¬ k = 4) (h5 : ¬ k = 5) (h6 : ¬ k = 6) (h7 : ¬ k = 7) :
    Two (doM m c k n p).1.c0 (doM m c k n p).1.c1 L0 L1 (N + 1) ∧ (Cons m L0 L1 → Cons (doM m c k n p).1 L0 L1) := by
  by_cases hok : (doM m c k n p).2.2 = 0
  · obtain ⟨L0', L1', t, tw⟩ := doM_took (k := k) (n := n) (p := p) h hc hN hn hok
    have hcn : Cons m L0 L1 → Cons (doM m c k n p).1 L0' L1' := fun e => cons_took h e hc hp hok t
    generalize (doM m c k n p).1 = m' at t tw hcn ⊢
    cases t with
    | send hk _ => exact absurd hk h1
    | other => exact ⟨tw, hcn⟩
    | recv _ _ _ hk => exact absurd hk h4
    | ack _ _ hk => exact absurd hk h5
    | back _ hk => rcases hk with hk | hk
                   · exact absurd hk h6
                   · exact absurd hk h7
  · obtain ⟨e, _⟩ := doM_err (k := k) (n := n) (p := p) hc hok
    rw [e]
    exact ⟨h.mono (by omega), id⟩

/-- A step that leaves the ledgers alone. -/
def DoOther (lab : Nat → Nat) (w : World) (y x : Nat) (m : Mod) (L0 L1 : Lg) (r0 r1 : LgAt) (N : Nat) (w' : World) : Prop := ∃ lab', Wd lab' w' y x m L0 L1 r0 r1 N ∧ StepW lab lab' w w'

theorem do_other (h : Wd lab w y x m L0 L1 r0 r1 N) (hc : c < 2) (hN : N < 50000) (hn : 0 ≤ n ∧ n < 18446744073709551616) (h1 : ¬ k = 1) (h4 : ¬ k = 4) (h5 : ¬ k = 5) (h6 : ¬ k = 6) (h7 : ¬ k = 7) :
    Calls Try.prog 10 #[.pointer (some ⟨x, 0, none⟩), .int .i64 c, stepAgg k n pkZ] w fun e w' => e = .returned (.tuple #[.int .u64 (doM m c k n pkZ).2.1, .int .i64 (doM m c k n pkZ).2.2]) ∧ DoOther lab w y x (doM m c k n pkZ).1 L0 L1 r0 r1 (N + 1) w' := by
  refine (do_at h.mem hc (by omega) ⟨h.tk.1, by have := h.tk.2; omega⟩ hn pkZ).mono ?_
  rintro e w' ⟨he, lab', hm, st⟩
  exact ⟨he, lab', Wm.wd (by rw [show 6 + 4 * (N + 1) = 6 + 4 * N + 4 by omega]; exact hm) (two_other h.two hc (by omega) hn.1 (Int.le_refl 0) h1 h4 h5 h6 h7).1 (by have := doM_taken (m := m) (c := c) (k := k) (n := n) (p := pkZ) h.tk; simpa using this), StepW.ofB st⟩

theorem Wd.fresh {w' : World} (h : Wd lab w y x m L0 L1 r0 r1 N) (g : w.grownBy w' none) : Wd (labN lab w.heap.size) w' y x m L0 L1 r0 r1 N := Wm.wd (h.mem.fresh g) h.two h.tk

/-- A chain that has ticked. -/
def ticked (S : Ch) : Ch := { S with hd := { S.hd with height := S.hd.height + 1 }, heads := S.heads ++ [{ S.hd with height := S.hd.height + 1 }] }

theorem tick0_is {S : Ch} (h0 : 0 ≤ S.hd.time) (h1 : S.hd.time < 18446744073709551616) (h2 : 0 ≤ S.hd.height) (h3 : S.hd.height ≤ 1000000) : tickC S 0 = (ticked S, 0, 0) := by
  have e1 : IntKind.u64.wrap (18446744073709551615 - S.hd.time) = 18446744073709551615 - S.hd.time := by rw [IntKind.wrap_u64]; omega
  have e2 : IntKind.u64.wrap (S.hd.time + 0) = S.hd.time := by rw [IntKind.wrap_u64]; omega
  have e3 : IntKind.u64.wrap (S.hd.height + 1) = S.hd.height + 1 := by rw [IntKind.wrap_u64]; omega
  unfold tickC
  rw [e1, if_neg (by omega)]
  simp only [Ch.later, e2, e3, ticked]

def tkM (m : Mod) (t : Nat) : Mod := { c0 := if 0 < t then ticked m.c0 else m.c0, c1 := if 1 < t then ticked m.c1 else m.c1, taken := m.taken + t }

/-- What the two chains' numbers are. -/
structure Num (m : Mod) (N : Nat) : Prop where
  t0 : 0 ≤ m.c0.hd.time ∧ m.c0.hd.time < 18446744073709551616
  t1 : 0 ≤ m.c1.hd.time ∧ m.c1.hd.time < 18446744073709551616
  h0 : 0 ≤ m.c0.hd.height ∧ m.c0.hd.height ≤ N
  h1 : 0 ≤ m.c1.hd.height ∧ m.c1.hd.height ≤ N
  l0 : m.c0.hd.height + 1 = m.c0.heads.length
  l1 : m.c1.hd.height + 1 = m.c1.heads.length
  k0 : m.c0.known < m.c1.heads.length
  k1 : m.c1.known < m.c0.heads.length

theorem Wd.num (h : Wd lab w y x m L0 L1 r0 r1 N) : Num m N := by
  obtain ⟨a0, a1, K0, K1, hb⟩ := h.br
  exact ⟨⟨h.two.rs.t0, h.two.rs.t1⟩, ⟨h.two.ro.t0, h.two.ro.t1⟩, ⟨h.two.rs.h0, h.two.rs.h1⟩, ⟨h.two.ro.h0, h.two.ro.h1⟩, hb.h0, hb.h1, h.two.out.kn, h.two.back.kn⟩

theorem tkM_zero (m : Mod) : tkM m 0 = m := by simp [tkM]

theorem tkM_step (h : Num m N) (hN : N ≤ 100000) {t : Nat} (ht : t < 2) : doM (tkM m t) t 2 0 p = (tkM m (t + 1), 0, 0) := by
  rcases (show t = 0 ∨ t = 1 by omega) with rfl | rfl
  · have e := tick0_is (S := m.c0) h.t0.1 h.t0.2 h.h0.1 (by have := h.h0.2; omega)
    simp [doM, tkM, doC, e]
  · have e := tick0_is (S := m.c1) h.t1.1 h.t1.2 h.h1.1 (by have := h.h1.2; omega)
    simp [doM, tkM, doC, e]
    omega

def upM (m : Mod) (t : Nat) : Mod := { c0 := if 0 < t then { m.c0 with known := m.c1.hd.height.toNat } else m.c0, c1 := if 1 < t then { m.c1 with known := m.c0.hd.height.toNat } else m.c1, taken := m.taken + t }

theorem upM_zero (m : Mod) : upM m 0 = m := by simp [upM]

theorem upM_height (m : Mod) (t d : Nat) : (chOf (upM m t) d).hd.height = (chOf m d).hd.height := by
  unfold upM chOf
  by_cases e : d = 0
  · simp only [e, if_true]; split <;> rfl
  · simp only [e, if_false]; split <;> rfl

theorem upd_is {S : Ch} {n : Int} {hl : Nat} (e : ¬ ((hl : Int) ≤ n ∨ n ≤ S.known)) : updateC S n hl = ({ S with known := n.toNat }, 0, 0) := by unfold updateC; rw [if_neg e]

theorem upM_step (h : Num m N) {t d : Nat} (ht : t < 2) (hd : d + t = 1) : doM (upM (tkM m 2) t) t 3 (chOf (tkM m 2) d).hd.height p = (upM (tkM m 2) (t + 1), 0, 0) := by
  obtain ⟨_, _, ⟨a1, a2⟩, ⟨b1, b2⟩, l0, l1, k0, k1⟩ := h
  rcases (show t = 0 ∨ t = 1 by omega) with rfl | rfl
  · obtain rfl : d = 1 := by omega
    have e : updateC (ticked m.c0) (ticked m.c1).hd.height (ticked m.c1).heads.length = ({ ticked m.c0 with known := (ticked m.c1).hd.height.toNat }, 0, 0) := upd_is (by
      simp only [ticked, List.length_append, List.length_singleton]; omega)
    simp [doM, upM, tkM, doC, chOf, e]
  · obtain rfl : d = 0 := by omega
    have e : updateC (ticked m.c1) (ticked m.c0).hd.height (ticked m.c0).heads.length = ({ ticked m.c1 with known := (ticked m.c0).hd.height.toNat }, 0, 0) := upd_is (by
      simp only [ticked, List.length_append, List.length_singleton]; omega)
    simp [doM, upM, tkM, doC, chOf, e]
    omega

/-- Both have ticked, and seen each other. -/
structure Meet (m m' : Mod) : Prop where
  o0 : m'.c0.hd.isOpen = m.c0.hd.isOpen
  o1 : m'.c1.hd.isOpen = m.c1.hd.isOpen
  k0 : knownHd m'.c0 m'.c1 = m'.c1.hd
  k1 : knownHd m'.c1 m'.c0 = m'.c0.hd

theorem meet_is (h : Num m N) : Meet m (upM (tkM m 2) 2) := by
  obtain ⟨_, _, ⟨a1, a2⟩, ⟨b1, b2⟩, l0, l1, k0, k1⟩ := h
  refine ⟨rfl, rfl, ?_, ?_⟩
  · have e : (m.c1.hd.height + 1).toNat = m.c1.heads.length := by omega
    simp [knownHd, upM, tkM, ticked, e]
  · have e : (m.c0.hd.height + 1).toNat = m.c0.heads.length := by omega
    simp [knownHd, upM, tkM, ticked, e]

end

end Go.Proofs.Ytmfdhcnnhlchbaa

namespace Go.Proofs.Ytmfdhcnnhlchbaa
open Go.RowKit

section
variable {m : Mod} {L0 L1 : Lg}

theorem wrap3 {a x y z : Int} (ha : 0 ≤ a) (hx : 0 ≤ x) (hy : 0 ≤ y) (hz : 0 ≤ z) (h : a + x + y + z < 18446744073709551616) : IntKind.u64.wrap (IntKind.u64.wrap (IntKind.u64.wrap (a + x) + y) + z) = a + x + y + z := by
  simp only [IntKind.wrap_u64]; omega

theorem balM0 (h : Nn m.c0) (j : Nat) (hj : j < 2) : (0 ≤ balM m 0 0 j ∧ 0 ≤ balM m 0 1 j ∧ 0 ≤ balM m 0 2 j) ∧ balM m 0 0 j + balM m 0 1 j + balM m 0 2 j = m.c0.bal j := by
  obtain ⟨a0, a1, a2, a3, a4, a5⟩ := h
  rcases (show j = 0 ∨ j = 1 by omega) with rfl | rfl <;> simp [balM, chainOf, hasAt, Ch.get, Ch.bal] <;> omega

theorem balM1 (h : Nn m.c1) (j : Nat) (hj : j < 2) : (0 ≤ balM m 1 0 j ∧ 0 ≤ balM m 1 1 j ∧ 0 ≤ balM m 1 2 j) ∧ balM m 1 0 j + balM m 1 1 j + balM m 1 2 j = m.c1.bal j := by
  obtain ⟨a0, a1, a2, a3, a4, a5⟩ := h
  rcases (show j = 0 ∨ j = 1 by omega) with rfl | rfl <;> simp [balM, chainOf, hasAt, Ch.get, Ch.bal] <;> omega

/-- What coin j comes to. -/
theorem Eyes.sum (e : Cons m L0 L1) (j : Nat) (hj : j < 2) : m.c0.bal j + m.c1.bal j + (wayAll L0 j + wayAll L1 j) = 3000 := by
  rcases (show j = 0 ∨ j = 1 by omega) with rfl | rfl
  · have := e.mine; simpa using this
  · have := e.theirs; simpa using this

theorem tot_is (e : Cons m L0 L1) (j : Nat) (hj : j < 2) : totM m L0 L1 j = 3000 := by
  have hs := e.sum j hj
  have w0 : 0 ≤ wayAll L0 j := way_nn (j := (j : Int)) e.qs L0.sent.length
  have w1 : 0 ≤ wayAll L1 j := way_nn (j := (j : Int)) e.qo L1.sent.length
  obtain ⟨⟨x0, x1, x2⟩, xs⟩ := balM0 e.pS j hj
  obtain ⟨⟨y0, y1, y2⟩, ys⟩ := balM1 e.pO j hj
  have hw0 : wayAll L0 j = way L0 j L0.sent.length := rfl
  have hw1 : wayAll L1 j = way L1 j L1.sent.length := rfl
  have u0 : accU m 0 j 0 3 = m.c0.bal j := by
    show IntKind.u64.wrap (IntKind.u64.wrap (IntKind.u64.wrap (0 + balM m 0 0 j) + balM m 0 1 j) + balM m 0 2 j) = _
    rw [wrap3 (Int.le_refl 0) x0 x1 x2 (by omega)]
    omega
  have c1 : accC m L0 L1 j 1 = m.c0.bal j + wayAll L0 j := by
    show under L0 j (accU m 0 j 0 3) L0.sent.length = _
    rw [u0, under_way e.qs _ (by omega) (by omega)]
  have u1 : accU m 1 j (m.c0.bal j + wayAll L0 j) 3 = m.c0.bal j + wayAll L0 j + m.c1.bal j := by
    show IntKind.u64.wrap (IntKind.u64.wrap (IntKind.u64.wrap (m.c0.bal j + wayAll L0 j + balM m 1 0 j) + balM m 1 1 j) + balM m 1 2 j) = _
    rw [wrap3 (by omega) y0 y1 y2 (by omega)]
    omega
  show under L1 j (accU m 1 j (accC m L0 L1 j 1) 3) L1.sent.length = _
  rw [c1, u1, under_way e.qo _ (by omega) (by omega)]
  omega

/-- What is locked, and what is about and under way. -/
def abC (L0 L1 : Lg) (a0 : Int) (j : Int) : Nat → Int
  | 0 => a0
  | c + 1 => under (lgOf L0 L1 c) j (abC L0 L1 a0 j c) (lgOf L0 L1 c).sent.length

theorem lock_is (e : Cons m L0 L1) (j d : Nat) (hd : d + j = 1) : (chOf m j).locked = abC L0 L1 (chOf m d).about j 2 := by
  have hj : j < 2 := by omega
  have hs := e.sum j hj
  have w0 : 0 ≤ wayAll L0 j := way_nn (j := (j : Int)) e.qs L0.sent.length
  have w1 : 0 ≤ wayAll L1 j := way_nn (j := (j : Int)) e.qo L1.sent.length
  have hw0 : wayAll L0 j = way L0 j L0.sent.length := rfl
  have hw1 : wayAll L1 j = way L1 j L1.sent.length := rfl
  obtain ⟨a0, a1, a2, a3, a4, a5⟩ := e.pS
  obtain ⟨b0, b1, b2, b3, b4, b5⟩ := e.pO
  have hb : 0 ≤ m.c0.bal j := by unfold Ch.bal; split <;> omega
  have hb1 : 0 ≤ m.c1.bal j := by unfold Ch.bal; split <;> omega
  have key : (chOf m j).locked = (chOf m d).about + (wayAll L0 j + wayAll L1 j) ∧ 0 ≤ (chOf m d).about ∧ (chOf m d).about ≤ 3000 - (wayAll L0 j + wayAll L1 j) := by
    rcases (show j = 0 ∨ j = 1 by omega) with rfl | rfl
    · obtain rfl : d = 1 := by omega
      have h1 : m.c0.locked = m.c1.about + (wayAll L0 ((0 : Nat) : Int) + wayAll L1 ((0 : Nat) : Int)) := e.lockS
      have h2 : m.c1.about = m.c1.bal ((0 : Nat) : Int) := e.abO
      exact ⟨h1, by show 0 ≤ m.c1.about; omega, by show m.c1.about ≤ _; omega⟩
    · obtain rfl : d = 0 := by omega
      have h1 : m.c1.locked = m.c0.about + (wayAll L0 ((1 : Nat) : Int) + wayAll L1 ((1 : Nat) : Int)) := e.lockO
      have h2 : m.c0.about = m.c0.bal ((1 : Nat) : Int) := e.abS
      exact ⟨h1, by show 0 ≤ m.c0.about; omega, by show m.c0.about ≤ _; omega⟩
  obtain ⟨k1, k2, k3⟩ := key
  show _ = under L1 j (under L0 j (chOf m d).about L0.sent.length) L1.sent.length
  rw [under_way e.qs _ k2 (by omega), under_way e.qo _ (by omega) (by omega)]
  omega

end

end Go.Proofs.Ytmfdhcnnhlchbaa
