import Derived.Test.YtmfdhcnnhlchbaaC30
namespace Go.Proofs.Ytmfdhcnnhlchbaa
open Go.RowKit Go.Maps

section
variable {lab : Nat → Nat} {w : World} {y x : Nat} {m : Mod} {L0 L1 : Lg} {r0 r1 : LgAt} {B : Nat}

theorem blk2c {w : World} {b t : Nat} {x0 x1 : Value} (h : w.heap[b]? = some (.cells #[x0, x1] t (0, 0))) : w.cell? ⟨b, 0, none⟩ = some x0 ∧ w.cell? ⟨b, 1, none⟩ = some x1 ∧ (∀ k, w.frozen? ⟨b, k, none⟩ = false) := by
  refine ⟨?_, ?_, ?_⟩
  all_goals first
    | (intro k; simp [World.frozen?, h])
    | simp [World.cell?, h]

def fin (m : Mod) (L0 L1 : Lg) (j : Nat) : Nat → Int := fun i => if i < j then totM m L0 L1 i else 0

theorem fin_at (m : Mod) (L0 L1 : Lg) (j : Nat) : upd (fin m L0 L1 j) j 0 = fin m L0 L1 j := by
  funext i; unfold upd fin
  by_cases e : i = j
  · subst e; simp
  · simp [e]

theorem fin_next (m : Mod) (L0 L1 : Lg) (j : Nat) : upd (fin m L0 L1 j) j (totM m L0 L1 j) = fin m L0 L1 (j + 1) := by
  funext i; unfold upd fin
  by_cases e : i = j
  · subst e; simp
  · simp only [e, if_false]
    by_cases h : i < j
    · rw [if_pos h, if_pos (by omega)]
    · rw [if_neg h, if_neg (by omega)]

theorem lg_rows (h : Wm lab w y x m L0 L1 r0 r1 B) (c : Nat) : w.ownsRow 0 tPk 7 ((lgOf L0 L1 c).vs (atOf r0 r1 c)) (lgOf L0 L1 c).sent.length ((lgOf L0 L1 c).sent.flatMap Pk.cells) ∧
    w.ownsRow 0 tInt 1 ((lgOf L0 L1 c).va (atOf r0 r1 c)) (lgOf L0 L1 c).ans.length ((lgOf L0 L1 c).ans.map (Value.int .i64)) ∧ w.ownsRow 0 tBool 1 ((lgOf L0 L1 c).vp (atOf r0 r1 c)) (lgOf L0 L1 c).pend.length ((lgOf L0 L1 c).pend.map Value.bool) := by
  by_cases e : c = 0
  · simp only [lgOf, atOf, if_pos e]; exact ⟨h.l0.s, h.l0.a, h.l0.p⟩
  · simp only [lgOf, atOf, if_neg e]; exact ⟨h.l1.s, h.l1.a, h.l1.p⟩

theorem lens_of (h0 : Lens L0) (h1 : Lens L1) (c : Nat) : Lens (lgOf L0 L1 c) := by
  by_cases e : c = 0
  · simp only [lgOf, if_pos e]; exact h0
  · simp only [lgOf, if_neg e]; exact h1

set_option maxRecDepth 100000 in
set_option maxHeartbeats 8000000 in
theorem total_ok (h : Wm lab w y x m L0 L1 r0 r1 B) (h0 : Lens L0) (h1 : Lens L1) :
    Calls Try.prog 16 #[.pointer (some ⟨y, 0, none⟩)] w fun e w' => e = .returned (.agg #[.int .u64 (totM m L0 L1 0), .int .u64 (totM m L0 L1 1)]) ∧ w.grownBy w' none := by
  obtain ⟨w1, hw1⟩ : ∃ w1 : World, w1 = (w.alloc (.cells #[.int .u64 0, .int .u64 0] 56)).alloc (.cells #[.int .u64 0, .int .u64 0] 56) := ⟨_, rfl⟩
  have S1 : Sum w (fin m L0 L1 0) w1 := by
    rw [hw1]
    refine ⟨grown_alloc (World.grownBy_alloc _ _ _) _, ?_, ?_⟩
    · exact ((World.grownBy_alloc _ _ none).block _ (by simp) (by simp)).trans (heap_alloc_new w _)
    · have := heap_alloc_new (w.alloc (.cells #[.int .u64 0, .int .u64 0] 56)) (.cells #[.int .u64 0, .int .u64 0] 56)
      simpa [fin] using this
  have hyl := blk_lt h.blk
  have HD : Hid (Wm lab w y x m L0 L1 r0 r1 B) := h
  have HL : Hid (Lens L0 ∧ Lens L1) := ⟨h0, h1⟩
  clear h h0 h1
  go_enter Try.func16, Try.ntmps16
  go_wp2_with fail
  rw [← hw1]
  clear hw1
  go_loopw [9] (fun vj wr => ∃ j : Nat, vj = .int .i64 j ∧ j ≤ 2 ∧ Sum w (fin m L0 L1 j) wr) (fun vj _ => 3 - (intV vj).toNat)
  case atStart => exact ⟨0, rfl, by omega, S1⟩
  case round =>
    obtain ⟨j, rfl, hj, hS⟩ := hrel
    by_cases hj2 : j < 2
    · have hjz : (j : Int) < 2 := by omega
      have hj0 : (0 : Int) ≤ (j : Int) := by omega
      have jw := wrap_i (n := j + 1) (by omega)
      have HS : Hid (Sum w (fin m L0 L1 j) wr) := hS
      clear hS
      go_wp2_with fail
      go_loopw [12] (fun vc wc => ∃ c : Nat, vc = .int .i64 c ∧ c ≤ 2 ∧ Sum w (upd (fin m L0 L1 j) j (accC m L0 L1 j c)) wc) (fun vc _ => 3 - (intV vc).toNat)
      case atStart => exact ⟨0, rfl, by omega, by show Sum w (upd (fin m L0 L1 j) j 0) wr; rw [fin_at]; exact HS.out⟩
      case round =>
        obtain ⟨c, rfl, hc, hSc⟩ := hrel
        by_cases hc2 : c < 2
        · have hcz : (c : Int) < 2 := by omega
          have hc0 : (0 : Int) ≤ (c : Int) := by omega
          have cw := wrap_i (n := c + 1) (by omega)
          have HSc : Hid (Sum w (upd (fin m L0 L1 j) j (accC m L0 L1 j c)) wr) := hSc
          clear hSc
          go_wp2_with fail
          go_loopw [15] (fun vu wu => ∃ u : Nat, vu = .int .i64 u ∧ u ≤ 3 ∧ Sum w (upd (fin m L0 L1 j) j (accU m c j (accC m L0 L1 j c) u)) wu) (fun vu _ => 4 - (intV vu).toNat)
          case atStart => exact ⟨0, rfl, by omega, HSc.out⟩
          case round =>
            obtain ⟨u, rfl, hu, hSu⟩ := hrel
            by_cases hlt : u < 3
            · have hltz : (u : Int) < 3 := by omega
              have uw := wrap_i (n := u + 1) (by omega)
              have o0 := hSu.cell hj2
              have of := hSu.frozen
              obtain ⟨y0, _, _, _, yf⟩ := (HD.out.grown hSu.by_).cells hc2
              have p0 := hSu.drew.cell hj2
              have pf := hSu.drew.frozen
              obtain ⟨z0, _, _, _, zf⟩ := (HD.out.grown hSu.drew.by_).cells hc2
              have hgl := blk_lt hSu.out
              have hyl2 : y < wr.heap.size := by have := hSu.by_.size; omega
              have HU : Hid (Sum w (upd (fin m L0 L1 j) j (accU m c j (accC m L0 L1 j c) u)) wr) := hSu
              clear hSu
              rw [upd_at] at o0 p0
              obtain ⟨A, eA⟩ : ∃ A, A = accU m c j (accC m L0 L1 j c) u := ⟨_, rfl⟩
              rw [← eA] at o0 p0
              have HAe : Hid (A = accU m c j (accC m L0 L1 j c) u) := eA
              clear eA
              obtain ⟨bv, eb⟩ : ∃ bv, bv = balM m c u j := ⟨_, rfl⟩
              have hbal : ∀ v : World, w.grownBy v none → Calls Try.prog 15 #[.pointer (some ⟨x, 0, none⟩), .int .i64 c, .int .i64 u, .int .i64 j] v fun e w' => e = .returned (.int .u64 bv) ∧ w' = v := fun v hv => by rw [eb]; exact bal_at HD.out hc2 hj2 hlt hv
              have HB : Hid (bv = balM m c u j) := eb
              clear eb
              go_wp2_with fail
              go_region_with (first | (go_at_call 15; refine (hbal _ (by first | exact HU.out.by_ | exact HU.out.drew.by_)).mono ?_; rintro e w3 ⟨rfl, rfl⟩))
              all_goals go_wp2_with fail
              all_goals
                (go_roundw
                 case rel =>
                   refine ⟨u + 1, by simp, by omega, ?_⟩
                   show Sum w (upd (fin m L0 L1 j) j (IntKind.u64.wrap (accU m c j (accC m L0 L1 j c) u + balM m c u j))) _
                   rw [← HAe.out, ← HB.out, ← upd_upd _ _ (accU m c j (accC m L0 L1 j c) u)]
                   first | exact HU.out.drew.add hj2 _ | exact (HU.out.add hj2 _).drew | exact HU.out.add hj2 _
                 case measure => simp [intV]; omega)
            · have hue : u = 3 := by omega
              subst hue
              have hWr := HD.out.grown hSu.by_
              obtain ⟨y0, y1, y2, y3, yf⟩ := hWr.cells hc2
              obtain ⟨rs, ra, rp⟩ := lg_rows HD.out c
              have hln := lens_of HL.out.1 HL.out.2 c
              simp only [Lg.vs, Lg.va, Lg.vp] at y1 y2 y3 rs ra rp
              rw [hln.a] at y2 ra
              rw [hln.p] at y3 rp
              obtain ⟨n, hn⟩ : ∃ n, n = (lgOf L0 L1 c).sent.length := ⟨_, rfl⟩
              have hn5 : n ≤ 100000 := by rw [hn]; exact hln.s
              rw [← hn] at y1 y2 y3 rs ra rp
              obtain ⟨al, eas⟩ : ∃ a, a = (atOf r0 r1 c).s := ⟨_, rfl⟩
              obtain ⟨aa, eaa⟩ : ∃ a, a = (atOf r0 r1 c).a := ⟨_, rfl⟩
              obtain ⟨ap, eap⟩ : ∃ a, a = (atOf r0 r1 c).p := ⟨_, rfl⟩
              obtain ⟨cs, ecs⟩ : ∃ a, a = (atOf r0 r1 c).cs := ⟨_, rfl⟩
              obtain ⟨ca, eca⟩ : ∃ a, a = (atOf r0 r1 c).ca := ⟨_, rfl⟩
              obtain ⟨cp, ecp⟩ : ∃ a, a = (atOf r0 r1 c).cp := ⟨_, rfl⟩
              rw [← eas, ← ecs] at y1 rs
              rw [← eaa, ← eca] at y2 ra
              rw [← eap, ← ecp] at y3 rp
              obtain ⟨L, eL⟩ : ∃ L, L = lgOf L0 L1 c := ⟨_, rfl⟩
              rw [← eL] at rs ra rp hn hln
              have hyl2 : y < wr.heap.size := by have := hSu.by_.size; omega
              have HU : Hid (Sum w (upd (fin m L0 L1 j) j (accU m c j (accC m L0 L1 j c) 3)) wr) := hSu
              have HR : Hid (w.ownsRow 0 tPk 7 (.slice al n cs) n (L.sent.flatMap Pk.cells) ∧ w.ownsRow 0 tInt 1 (.slice aa n ca) n (L.ans.map (Value.int .i64)) ∧ w.ownsRow 0 tBool 1 (.slice ap n cp) n (L.pend.map Value.bool)) := ⟨rs, ra, rp⟩
              have HLn : Hid (n = L.sent.length ∧ L.ans.length = n ∧ L.pend.length = n) := ⟨hn, by rw [hn]; exact hln.a, by rw [hn]; exact hln.p⟩
              have HeL : Hid (L = lgOf L0 L1 c) := eL
              have HC : Hid ((lgOf L0 L1 c).va (atOf r0 r1 c) = .slice aa n ca ∧ (lgOf L0 L1 c).vp (atOf r0 r1 c) = .slice ap n cp) := by
                refine ⟨?_, ?_⟩
                · rw [eaa, eca, ← HLn.out.2.1, eL]
                · rw [eap, ecp, ← HLn.out.2.2, eL]
              clear hSu rs ra rp hn hln eL eas eaa eap ecs eca ecp hWr
              go_wp2_with fail
              go_loopw [39] (fun vi wi => ∃ i : Nat, vi = .int .i64 i ∧ i ≤ n ∧ Sum w (upd (fin m L0 L1 j) j (under L j (accU m c j (accC m L0 L1 j c) 3) i)) wi) (fun vi _ => n + 1 - (intV vi).toNat)
              case atStart => exact ⟨0, rfl, by omega, HU.out⟩
              case round =>
                obtain ⟨i, rfl, hi, hSi⟩ := hrel
                by_cases hin : i < n
                · have hinz : (i : Int) < (n : Int) := by omega
                  have iw := wrap_i (n := i + 1) (by omega)
                  have rs := owns_keep HR.out.1 fun k e => hSi.by_.block k (owns_lt HR.out.1 e) (by simp)
                  have ra := owns_keep HR.out.2.1 fun k e => hSi.by_.block k (owns_lt HR.out.2.1 e) (by simp)
                  have rp := owns_keep HR.out.2.2 fun k e => hSi.by_.block k (owns_lt HR.out.2.2 e) (by simp)
                  obtain ⟨gs, rfl⟩ := row_some rs hin
                  obtain ⟨ga, rfl⟩ := row_some ra hin
                  obtain ⟨gp, rfl⟩ := row_some rp hin
                  obtain ⟨p, hp⟩ : ∃ p, L.sent[i]? = some p := ⟨_, List.getElem?_eq_getElem (by have := HLn.out.1; omega)⟩
                  obtain ⟨v, hv⟩ : ∃ v, L.ans[i]? = some v := ⟨_, List.getElem?_eq_getElem (by have := HLn.out.2.1; omega)⟩
                  obtain ⟨b, hb⟩ : ∃ b, L.pend[i]? = some b := ⟨_, List.getElem?_eq_getElem (by have := HLn.out.2.2; omega)⟩
                  obtain ⟨p0, p1, p2, p3, p4, p5, p6⟩ := pk_at rs hp
                  have pf : ∀ k, wr.frozen? ⟨gs, k, none⟩ = false := fun k => rs.frozenAt k
                  obtain ⟨wB, hwB⟩ : ∃ wB : World, wB = wr.alloc (.cells p.arr 43) := ⟨_, rfl⟩
                  have gB : wr.grownBy wB none := by rw [hwB]; exact World.grownBy_alloc _ _ _
                  have hZ : wB.heap[wr.heap.size]? = some (.cells p.arr 43 (0, 0)) := by rw [hwB]; exact heap_alloc_new wr _
                  have hSB := hSi.grow gB
                  obtain ⟨z0, z1, z2, z3, z4, z5, z6, zf⟩ := blk7 hZ
                  go_upto_region 16 with fail
                  rw [← hwB]
                  clear hwB p0 p1 p2 p3 p4 p5 p6 pf y0 y1 y2 y3 yf
                  obtain ⟨_, y1, y2, y3, yf⟩ := (HD.out.grown hSB.by_).cells hc2
                  have va : wB.cell? ⟨ga, i, none⟩ = some (.int .i64 v) := one_at (enc := Value.int .i64) (owns_keep ra fun k e => gB.block k (owns_lt ra e) (by simp)) hv
                  have vp : wB.cell? ⟨gp, i, none⟩ = some (.bool b) := one_at (enc := Value.bool) (owns_keep rp fun k e => gB.block k (owns_lt rp e) (by simp)) hb
                  have H : Hid (Sum w (upd (fin m L0 L1 j) j (under L j (accU m c j (accC m L0 L1 j c) 3) i)) wB) := hSB
                  have y1' : wB.cell? ⟨y, 3 + c, none⟩ = some (.slice (some ⟨ga, 0, none⟩) n ca) := by rw [y2]; exact congrArg some HC.out.1
                  have y2' : wB.cell? ⟨y, 5 + c, none⟩ = some (.slice (some ⟨gp, 0, none⟩) n cp) := by rw [y3]; exact congrArg some HC.out.2
                  clear y1 y2 y3
                  by_cases how : p.coin = (j : Int) ∧ b = true ∧ ¬ v = 1
                  · obtain ⟨hco, rfl, hv1⟩ := how
                    have ho : Hid (owes L j i = some p.amount) := by show owes L j i = _; simp only [owes, hp, hb, hv]; rw [if_pos ⟨hco, hv1⟩]
                    have o0 := hSB.cell hj2
                    have of := hSB.frozen
                    have o0d := hSB.drew.cell hj2
                    have ofd := hSB.drew.frozen
                    rw [upd_at] at o0 o0d
                    have hol := blk_lt hSB.out
                    rw [hco] at z3
                    obtain ⟨A, eA⟩ : ∃ A, A = under L j (accU m c j (accC m L0 L1 j c) 3) i := ⟨_, rfl⟩
                    rw [← eA] at o0 o0d
                    have HA : Hid (A = under L j (accU m c j (accC m L0 L1 j c) 3) i) := eA
                    obtain ⟨am, eam⟩ : ∃ am, am = p.amount := ⟨_, rfl⟩
                    rw [← eam] at z4
                    have Ham : Hid (am = p.amount) := eam
                    clear eA eam hco hb hp hv hSB hSi rs ra rp gB hZ
                    go_wp2_with fail
                    go_region
                    go_wp2_with fail
                    go_roundw
                    case rel =>
                      refine ⟨i + 1, by simp, by omega, ?_⟩
                      have e : under L j (accU m c j (accC m L0 L1 j c) 3) (i + 1) = IntKind.u64.wrap (A + am) := by rw [under, ho.out, HA.out, Ham.out]
                      rw [e, ← upd_upd _ _ (under L j (accU m c j (accC m L0 L1 j c) 3) i)]
                      first | exact H.out.drew.add hj2 _ | exact (H.out.add hj2 _).drew | exact H.out.add hj2 _
                    case measure => simp [intV]; omega
                  · have ho : Hid (owes L j i = none) := by
                      show owes L j i = none
                      simp only [owes, hp, hb, hv]
                      cases b
                      · rfl
                      · by_cases e : p.coin = (j : Int)
                        · have e1 : v = 1 := by
                            by_cases e2 : v = 1
                            · exact e2
                            · exact absurd ⟨e, rfl, e2⟩ how
                          simp [e1]
                        · simp [e]
                    have hen : Hid (Sum w (upd (fin m L0 L1 j) j (under L j (accU m c j (accC m L0 L1 j c) 3) (i + 1))) wB) := by
                      show Sum _ _ _
                      rw [under, ho.out]; exact hSB
                    clear hb hp hv hSB hSi rs ra rp gB hZ
                    by_cases hco : p.coin = (j : Int)
                    · rw [hco] at z3
                      cases b
                      · clear how hco
                        go_wp2_with fail
                        go_roundw
                        case rel => exact ⟨i + 1, by simp, by omega, hen.out⟩
                        case measure => simp [intV]; omega
                      · have e1 : v = 1 := by
                          by_cases e2 : v = 1
                          · exact e2
                          · exact absurd ⟨hco, rfl, e2⟩ how
                        clear how
                        rw [e1] at va
                        clear hco
                        go_wp2_with fail
                        go_roundw
                        case rel => exact ⟨i + 1, by simp, by omega, hen.out⟩
                        case measure => simp [intV]; omega
                    · clear how
                      have hcob : (p.coin == (j : Int)) = false := by simpa using hco
                      obtain ⟨co, eco⟩ : ∃ co, co = p.coin := ⟨_, rfl⟩
                      rw [← eco] at z3 hcob hco
                      clear eco
                      go_wp2_with fail
                      go_roundw
                      case rel => exact ⟨i + 1, by simp, by omega, hen.out⟩
                      case measure => simp [intV]; omega
                · have hie : i = n := by omega
                  subst hie
                  have HE : Hid (Sum w (upd (fin m L0 L1 j) j (accC m L0 L1 j (c + 1))) wr) := by
                    show Sum _ _ _
                    rw [accC, ← HeL.out, ← HLn.out.1]; exact hSi
                  clear hSi
                  go_wp2_with fail
                  go_roundw
                  case rel => exact ⟨c + 1, by simp, by omega, HE.out⟩
                  case measure => simp [intV]; omega
        · have hce : c = 2 := by omega
          subst hce
          have HE : Hid (Sum w (fin m L0 L1 (j + 1)) wr) := by
            show Sum _ _ _
            rw [← fin_next]; exact hSc
          clear hSc
          go_wp2_with fail
          go_roundw
          case rel => exact ⟨j + 1, by simp, by omega, HE.out⟩
          case measure => simp [intV]; omega
    · have hje : j = 2 := by omega
      subst hje
      obtain ⟨o0, o1, of⟩ := blk2c hS.out
      obtain ⟨e0, e1, ef⟩ := blk2c hS.res
      have hl0 := blk_lt hS.out
      have hl1 := blk_lt hS.res
      have HS : Hid (Sum w (fin m L0 L1 2) wr) := hS
      clear hS
      have f0 : fin m L0 L1 2 0 = totM m L0 L1 0 := by simp [fin]
      have f1 : fin m L0 L1 2 1 = totM m L0 L1 1 := by simp [fin]
      rw [f0] at o0
      rw [f1] at o1
      clear f0 f1
      go_wp2_with fail
      refine bodyPost_ret (v := .agg #[.int .u64 (totM m L0 L1 0), .int .u64 (totM m L0 L1 1)]) ?_ rfl ⟨rfl, ?_⟩
      · simp [results, Try.results16, go_sem, *]
      · exact grown_set (grown_set HS.out.by_ _ _ (.inr (Nat.le_refl _))) _ _ (.inr (Nat.le_refl _))

end

end Go.Proofs.Ytmfdhcnnhlchbaa
