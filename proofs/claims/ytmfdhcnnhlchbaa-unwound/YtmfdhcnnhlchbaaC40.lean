import Derived.Test.YtmfdhcnnhlchbaaC39
import Derived.Test.YtmfdhcnnhlchbaaC31
import Derived.Test.YtmfdhcnnhlchbaaC32
namespace Go.Proofs.Ytmfdhcnnhlchbaa
open Go.RowKit Go.Maps

abbrev lkArr (S : Ch) (kh : Int) (al : Option Addr) (cl : Nat) : Array Value := #[.int .u64 S.hd.height, .int .u64 S.hd.time, .int .u64 kh, .bool S.hd.isOpen, .int .u64 S.nextSend, .int .u64 S.hd.nextRecv, .slice al S.hd.packets.length cl, .int .u64 S.locked, .int .u64 S.about]

/-- What kept has in hand: the totals. -/
structure Ke (w : World) (z : Nat) (wr : World) : Prop where
  by_ : w.grownBy wr none
  le : w.heap.size ≤ z
  tot : wr.heap[z]? = some (.cells #[.int .u64 3000, .int .u64 3000] 56 (0, 0))

theorem Ke.grow {w wr wr' : World} {z : Nat} (h : Ke w z wr) (g : wr.grownBy wr' none) : Ke w z wr' := ⟨grown_trans h.by_ g (fun k e => by cases e), h.le, (g.block _ (blk_lt h.tot) (by simp)).trans h.tot⟩

/-- And what one chain looks like. -/
structure Kf (w : World) (z b : Nat) (A : Array Value) (wr : World) : Prop where
  e : Ke w z wr
  l : wr.heap[b]? = some (.cells A 49 (0, 0))

theorem Kf.grow {w wr wr' : World} {z b : Nat} {A : Array Value} (h : Kf w z b A wr) (g : wr.grownBy wr' none) : Kf w z b A wr' := ⟨h.e.grow g, (g.block _ (blk_lt h.l) (by simp)).trans h.l⟩

section
variable {lab : Nat → Nat} {w : World} {y x : Nat} {m : Mod} {L0 L1 : Lg} {r0 r1 : LgAt} {B : Nat}

set_option maxRecDepth 100000 in
set_option maxHeartbeats 8000000 in
theorem kept_ok (h : Wm lab w y x m L0 L1 r0 r1 B) (hB : B ≤ 8000000) (h0 : Lens L0) (h1 : Lens L1) (hcn : Cons m L0 L1) :
    Calls Try.prog 8 #[.pointer (some ⟨y, 0, none⟩)] w fun e w' => e = .returned (.bool true) ∧ w.grownBy w' none := by
  have htot := total_ok h h0 h1
  rw [show totM m L0 L1 0 = 3000 from tot_is hcn 0 (by decide), show totM m L0 L1 1 = 3000 from tot_is hcn 1 (by decide)] at htot
  have hyl := blk_lt h.blk
  have hlook : ∀ v : World, w.grownBy v none → ∀ d : Nat, d < 2 → Calls Try.prog 13 #[.pointer (some ⟨x, 0, none⟩), .int .i64 d] v fun e w' => Looked (chOf m d) v e w' := fun v hv d hd => look_at (h.grown hv) hd hB
  have HD : Hid (Wm lab w y x m L0 L1 r0 r1 B) := h
  have HL : Hid (Lens L0 ∧ Lens L1) := ⟨h0, h1⟩
  have HN : Hid (Cons m L0 L1) := hcn
  clear h h0 h1 hcn
  go_enter Try.func8, Try.ntmps8
  go_upto_region 2 with (go_at_call 16; refine htot.mono ?_; rintro e wt ⟨rfl, gt⟩)
  obtain ⟨wA, hwA⟩ : ∃ wA : World, wA = wt.alloc (.cells #[.int .u64 3000, .int .u64 3000] 56) := ⟨_, rfl⟩
  obtain ⟨z, hz⟩ : ∃ z, z = wt.heap.size := ⟨_, rfl⟩
  have EA : Ke w z wA := ⟨by rw [hwA]; exact grown_alloc gt _, by rw [hz]; exact gt.size, by rw [hwA, hz]; exact heap_alloc_new wt _⟩
  rw [← hwA, ← hz]
  clear hwA hz gt htot
  go_wp2_with fail
  go_loopw [15] (fun vj wr => ∃ j : Nat, vj = .int .i64 j ∧ j ≤ 2 ∧ Ke w z wr) (fun vj _ => 3 - (intV vj).toNat)
  case atStart => exact ⟨0, rfl, by omega, EA⟩
  case round =>
    obtain ⟨j, rfl, hj, hE⟩ := hrel
    by_cases hj2 : j < 2
    · have hjz : (j : Int) < 2 := by omega
      have hj0 : (0 : Int) ≤ (j : Int) := by omega
      have jw := wrap_i (n := j + 1) (by omega)
      obtain ⟨d, hd⟩ : ∃ d, d + j = 1 := ⟨1 - j, by omega⟩
      have hd2 : d < 2 := by omega
      have wd : IntKind.i64.wrap (1 - (j : Int)) = (d : Int) := by rw [show (1 : Int) - (j : Int) = (d : Int) by omega]; exact wrap_i (by omega)
      have HDJ : Hid (d + j = 1) := hd
      clear hd
      have t0 : wr.cell? ⟨z, j, none⟩ = some (.int .u64 3000) := by
        obtain ⟨a, b, _⟩ := blk2c hE.tot
        rcases (show j = 0 ∨ j = 1 by omega) with rfl | rfl
        · exact a
        · exact b
      have hzl := blk_lt hE.tot
      have HE : Hid (Ke w z wr) := hE
      obtain ⟨y0, _, _, _, yf⟩ := (HD.out.grown hE.by_).cells hj2
      have hyl2 : y < wr.heap.size := by have := hE.by_.size; omega
      have hlk1 := hlook wr hE.by_ j hj2
      clear hE
      go_upto_region 8 with (go_at_call 13; refine hlk1.mono ?_; rintro e w3 ⟨kh, al, cl, rfl, g3⟩)
      obtain ⟨wB, hwB⟩ : ∃ wB : World, wB = w3.alloc (.cells (lkArr (chOf m j) kh al cl) 49) := ⟨_, rfl⟩
      obtain ⟨bl, hbl⟩ : ∃ bl, bl = w3.heap.size := ⟨_, rfl⟩
      have FB : Kf w z bl (lkArr (chOf m j) kh al cl) wB := ⟨HE.out.grow (by rw [hwB]; exact grown_alloc g3 _), by rw [hwB, hbl]; exact heap_alloc_new w3 _⟩
      rw [← hwB, ← hbl]
      clear hwB hbl g3 hlk1 y0 yf t0
      obtain ⟨y0, _, _, _, yf⟩ := (HD.out.grown FB.e.by_).cells hj2
      have hylB : y < wB.heap.size := by have := FB.e.by_.size; omega
      have hlk2 := hlook wB FB.e.by_ d hd2
      have HFB : Hid (Kf w z bl (lkArr (chOf m j) kh al cl) wB) := FB
      clear FB
      go_upto_region 9 with (go_at_call 13; refine hlk2.mono ?_; rintro e w4 ⟨kh2, al2, cl2, rfl, g4⟩)
      obtain ⟨wC, hwC⟩ : ∃ wC : World, wC = w4.alloc (.cells (lkArr (chOf m d) kh2 al2 cl2) 49) := ⟨_, rfl⟩
      obtain ⟨bo, hbo⟩ : ∃ bo, bo = w4.heap.size := ⟨_, rfl⟩
      have FC : Kf w z bl (lkArr (chOf m j) kh al cl) wC := HFB.out.grow (by rw [hwC]; exact grown_alloc g4 _)
      have hO : wC.heap[bo]? = some (.cells (lkArr (chOf m d) kh2 al2 cl2) 49 (0, 0)) := by rw [hwC, hbo]; exact heap_alloc_new w4 _
      rw [← hwC, ← hbo]
      clear hwC hbo g4 hlk2 y0 yf
      obtain ⟨v0, v1, v2, v3, v4, v5, v6, v7, v8, vf⟩ := blk9c hO
      have hbol := blk_lt hO
      obtain ⟨ab, eab⟩ : ∃ ab, ab = (chOf m d).about := ⟨_, rfl⟩
      rw [← eab] at v8
      have HAB : Hid (ab = (chOf m d).about) := eab
      have HFC : Hid (Kf w z bl (lkArr (chOf m j) kh al cl) wC) := FC
      clear eab FC
      go_wp2_with fail
      clear v0 v1 v2 v3 v4 v5 v6 v7 v8 vf
      go_loopw [43, 9] (fun vc va wr => ∃ c : Nat, vc = .int .i64 c ∧ c ≤ 2 ∧ va = .int .u64 (abC L0 L1 ab j c) ∧ Kf w z bl (lkArr (chOf m j) kh al cl) wr) (fun vc _ _ => 3 - (intV vc).toNat)
      case atStart => exact ⟨0, rfl, by omega, rfl, HFC.out⟩
      case round =>
        obtain ⟨c, rfl, hc, rfl, hFc⟩ := hrel
        by_cases hc2 : c < 2
        · have hcz : (c : Int) < 2 := by omega
          have hc0 : (0 : Int) ≤ (c : Int) := by omega
          have cw := wrap_i (n := c + 1) (by omega)
          obtain ⟨y0, y1, y2, y3, yf⟩ := (HD.out.grown hFc.e.by_).cells hc2
          obtain ⟨rs, ra, rp⟩ := lg_rows HD.out c
          have hln := lens_of HL.out.1 HL.out.2 c
          simp only [Lg.vs, Lg.va, Lg.vp] at y1 y2 y3 rs ra rp
          rw [hln.a] at y2 ra
          rw [hln.p] at y3 rp
          obtain ⟨n, hn⟩ : ∃ n, n = (lgOf L0 L1 c).sent.length := ⟨_, rfl⟩
          have hn5 : n ≤ 100000 := by rw [hn]; exact hln.s
          rw [← hn] at y1 y2 y3 rs ra rp
          obtain ⟨as', eas⟩ : ∃ a, a = (atOf r0 r1 c).s := ⟨_, rfl⟩
          obtain ⟨aa, eaa⟩ : ∃ a, a = (atOf r0 r1 c).a := ⟨_, rfl⟩
          obtain ⟨ap, eap⟩ : ∃ a, a = (atOf r0 r1 c).p := ⟨_, rfl⟩
          obtain ⟨cs, ecs⟩ : ∃ a, a = (atOf r0 r1 c).cs := ⟨_, rfl⟩
          obtain ⟨ca, eca⟩ : ∃ a, a = (atOf r0 r1 c).ca := ⟨_, rfl⟩
          obtain ⟨cp, ecp⟩ : ∃ a, a = (atOf r0 r1 c).cp := ⟨_, rfl⟩
          rw [← eas, ← ecs] at y1 rs
          rw [← eaa, ← eca] at y2 ra
          rw [← eap, ← ecp] at y3 rp
          obtain ⟨L, eL⟩ : ∃ L, L = lgOf L0 L1 c := ⟨_, rfl⟩
          rw [← eL] at rs ra rp hn hln
          have hyl3 : y < wr.heap.size := by have := hFc.e.by_.size; omega
          obtain ⟨A0, eA0⟩ : ∃ A0, A0 = abC L0 L1 ab j c := ⟨_, rfl⟩
          rw [← eA0]
          have HA0 : Hid (A0 = abC L0 L1 ab j c) := eA0
          have HFc : Hid (Kf w z bl (lkArr (chOf m j) kh al cl) wr) := hFc
          have HR : Hid (w.ownsRow 0 tPk 7 (.slice as' n cs) n (L.sent.flatMap Pk.cells) ∧ w.ownsRow 0 tInt 1 (.slice aa n ca) n (L.ans.map (Value.int .i64)) ∧ w.ownsRow 0 tBool 1 (.slice ap n cp) n (L.pend.map Value.bool)) := ⟨rs, ra, rp⟩
          have HLn : Hid (n = L.sent.length ∧ L.ans.length = n ∧ L.pend.length = n) := ⟨hn, by rw [hn]; exact hln.a, by rw [hn]; exact hln.p⟩
          have HeL : Hid (L = lgOf L0 L1 c) := eL
          have HC : Hid ((lgOf L0 L1 c).va (atOf r0 r1 c) = .slice aa n ca ∧ (lgOf L0 L1 c).vp (atOf r0 r1 c) = .slice ap n cp) := by
            refine ⟨?_, ?_⟩
            · rw [eaa, eca, ← HLn.out.2.1, eL]
            · rw [eap, ecp, ← HLn.out.2.2, eL]
          clear hFc rs ra rp hn hln eL eas eaa eap ecs eca ecp eA0
          go_wp2_with fail
          go_loopw [53, 9] (fun vi va wi => ∃ i : Nat, vi = .int .i64 i ∧ i ≤ n ∧ va = .int .u64 (under L j A0 i) ∧ Kf w z bl (lkArr (chOf m j) kh al cl) wi) (fun vi _ _ => n + 1 - (intV vi).toNat)
          case atStart => exact ⟨0, rfl, by omega, rfl, HFc.out⟩
          case round =>
            obtain ⟨i, rfl, hi, rfl, hFi⟩ := hrel
            by_cases hin : i < n
            · have hinz : (i : Int) < (n : Int) := by omega
              have iw := wrap_i (n := i + 1) (by omega)
              have rs := owns_keep HR.out.1 fun k e => hFi.e.by_.block k (owns_lt HR.out.1 e) (by simp)
              have ra := owns_keep HR.out.2.1 fun k e => hFi.e.by_.block k (owns_lt HR.out.2.1 e) (by simp)
              have rp := owns_keep HR.out.2.2 fun k e => hFi.e.by_.block k (owns_lt HR.out.2.2 e) (by simp)
              obtain ⟨gs, rfl⟩ := row_some rs hin
              obtain ⟨ga, rfl⟩ := row_some ra hin
              obtain ⟨gp, rfl⟩ := row_some rp hin
              obtain ⟨p, hp⟩ : ∃ p, L.sent[i]? = some p := ⟨_, List.getElem?_eq_getElem (by have := HLn.out.1; omega)⟩
              obtain ⟨v, hv⟩ : ∃ v, L.ans[i]? = some v := ⟨_, List.getElem?_eq_getElem (by have := HLn.out.2.1; omega)⟩
              obtain ⟨b, hb⟩ : ∃ b, L.pend[i]? = some b := ⟨_, List.getElem?_eq_getElem (by have := HLn.out.2.2; omega)⟩
              obtain ⟨p0, p1, p2, p3, p4, p5, p6⟩ := pk_at rs hp
              have pf : ∀ k, wr.frozen? ⟨gs, k, none⟩ = false := fun k => rs.frozenAt k
              obtain ⟨wP, hwP⟩ : ∃ wP : World, wP = wr.alloc (.cells p.arr 43) := ⟨_, rfl⟩
              have gP : wr.grownBy wP none := by rw [hwP]; exact World.grownBy_alloc _ _ _
              have hZ : wP.heap[wr.heap.size]? = some (.cells p.arr 43 (0, 0)) := by rw [hwP]; exact heap_alloc_new wr _
              have hFP := hFi.grow gP
              obtain ⟨z0, z1, z2, z3, z4, z5, z6, zf⟩ := blk7 hZ
              obtain ⟨A, eA⟩ : ∃ A, A = under L j A0 i := ⟨_, rfl⟩
              rw [← eA]
              have HA : Hid (A = under L j A0 i) := eA
              clear eA
              go_upto_region 16 with fail
              rw [← hwP]
              clear hwP p0 p1 p2 p3 p4 p5 p6 pf y0 y1 y2 y3 yf
              obtain ⟨_, y1, y2, y3, yf⟩ := (HD.out.grown hFP.e.by_).cells hc2
              have va : wP.cell? ⟨ga, i, none⟩ = some (.int .i64 v) := one_at (enc := Value.int .i64) (owns_keep ra fun k e => gP.block k (owns_lt ra e) (by simp)) hv
              have vp : wP.cell? ⟨gp, i, none⟩ = some (.bool b) := one_at (enc := Value.bool) (owns_keep rp fun k e => gP.block k (owns_lt rp e) (by simp)) hb
              have y1' : wP.cell? ⟨y, 3 + c, none⟩ = some (.slice (some ⟨ga, 0, none⟩) n ca) := by rw [y2]; exact congrArg some HC.out.1
              have y2' : wP.cell? ⟨y, 5 + c, none⟩ = some (.slice (some ⟨gp, 0, none⟩) n cp) := by rw [y3]; exact congrArg some HC.out.2
              clear y1 y2 y3
              have H : Hid (Kf w z bl (lkArr (chOf m j) kh al cl) wP) := hFP
              by_cases how : p.coin = (j : Int) ∧ b = true ∧ ¬ v = 1
              · obtain ⟨hco, rfl, hv1⟩ := how
                have ho : Hid (owes L j i = some p.amount) := by show owes L j i = _; simp only [owes, hp, hb, hv]; rw [if_pos ⟨hco, hv1⟩]
                rw [hco] at z3
                obtain ⟨am, eam⟩ : ∃ am, am = p.amount := ⟨_, rfl⟩
                rw [← eam] at z4
                have Ham : Hid (am = p.amount) := eam
                clear eam hco hb hp hv hFP hFi rs ra rp gP hZ
                go_wp2_with fail
                go_roundw
                case rel =>
                  refine ⟨i + 1, by simp, by omega, ?_, H.out⟩
                  have e : under L j A0 (i + 1) = IntKind.u64.wrap (A + am) := by rw [under, ho.out, HA.out, Ham.out]
                  rw [e]
                case measure => simp [intV]; omega
              · have ho : Hid (owes L j i = none) := by
                  show owes L j i = none
                  simp only [owes, hp, hb, hv]
                  cases b
                  · rfl
                  · by_cases e : p.coin = (j : Int)
                    · have e1 : v = 1 := by
                        by_cases e2 : v = 1
                        · exact e2
                        · exact absurd ⟨e, rfl, e2⟩ how
                      simp [e1]
                    · simp [e]
                have hen : Hid (A = under L j A0 (i + 1)) := by
                  show A = _
                  rw [under, ho.out]; exact HA.out
                clear hb hp hv hFP hFi rs ra rp gP hZ
                by_cases hco : p.coin = (j : Int)
                · rw [hco] at z3
                  cases b
                  · clear how hco
                    go_wp2_with fail
                    go_roundw
                    case rel => exact ⟨i + 1, by simp, by omega, by rw [hen.out], H.out⟩
                    case measure => simp [intV]; omega
                  · have e1 : v = 1 := by
                      by_cases e2 : v = 1
                      · exact e2
                      · exact absurd ⟨hco, rfl, e2⟩ how
                    clear how
                    rw [e1] at va
                    clear hco
                    go_wp2_with fail
                    go_roundw
                    case rel => exact ⟨i + 1, by simp, by omega, by rw [hen.out], H.out⟩
                    case measure => simp [intV]; omega
                · clear how
                  have hcob : (p.coin == (j : Int)) = false := by simpa using hco
                  obtain ⟨co, eco⟩ : ∃ co, co = p.coin := ⟨_, rfl⟩
                  rw [← eco] at z3 hcob hco
                  clear eco
                  go_wp2_with fail
                  go_roundw
                  case rel => exact ⟨i + 1, by simp, by omega, by rw [hen.out], H.out⟩
                  case measure => simp [intV]; omega
            · have hie : i = n := by omega
              subst hie
              have hen : Hid (under L j A0 i = abC L0 L1 ab j (c + 1)) := by
                show under L j A0 i = _
                rw [abC, ← HeL.out, ← HLn.out.1, ← HA0.out]
              obtain ⟨A, eA⟩ : ∃ A, A = under L j A0 i := ⟨_, rfl⟩
              rw [← eA]
              have HA : Hid (A = abC L0 L1 ab j (c + 1)) := eA.trans hen.out
              have H : Hid (Kf w z bl (lkArr (chOf m j) kh al cl) wr) := hFi
              clear hFi eA
              go_wp2_with fail
              go_roundw
              case rel => exact ⟨c + 1, by simp, by omega, by rw [HA.out], H.out⟩
              case measure => simp [intV]; omega
        · have hce : c = 2 := by omega
          subst hce
          obtain ⟨lk, elk⟩ : ∃ lk, lk = abC L0 L1 ab j 2 := ⟨_, rfl⟩
          have hlk : (chOf m j).locked = lk := by rw [elk, HAB.out]; exact lock_is HN.out j d HDJ.out
          rw [← elk]
          clear elk
          have H : Hid (Kf w z bl (lkArr (chOf m j) kh al cl) wr) := hFc
          obtain ⟨v0, v1, v2, v3, v4, v5, v6, v7, v8, vf⟩ := blk9c hFc.l
          rw [hlk] at v7
          have hbll := blk_lt hFc.l
          clear hFc hlk v0 v1 v2 v3 v4 v5 v6 v8
          go_wp2_with fail
          go_roundw
          case rel => exact ⟨j + 1, by simp, by omega, H.out.e⟩
          case measure => simp [intV]; omega
    · have hje : j = 2 := by omega
      subst hje
      have HE : Hid (Ke w z wr) := hE
      clear hE
      go_wp2_with fail
      go_ret
      exact ⟨rfl, HE.out.by_⟩

end

end Go.Proofs.Ytmfdhcnnhlchbaa
