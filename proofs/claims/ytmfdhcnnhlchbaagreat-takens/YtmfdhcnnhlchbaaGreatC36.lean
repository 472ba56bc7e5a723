import Derived.Test.YtmfdhcnnhlchbaaGreatC35
import Derived.Test.YtmfdhcnnhlchbaaGreatC34
namespace Go.Proofs.YtmfdhcnnhlchbaaGreat
open Go.RowKit Go.Maps

section
variable {lab : Nat → Nat} {l : Nat} {w : World} {x q : Nat} {pre post : List Value} {S : Ch} {K : Hd} {a : DAt} {B : Nat}

theorem backC_none {n : Int} {b : Bool} (hp : S.hd.packets.find? (fun r => r.seq == n) = none) : backC S n K b = (S, 0, 10) := by
  unfold backC
  simp only [hp]

theorem timeout_any (h : DevCh lab l w x pre post S K a B) (hl : l ≠ 0) (hq : pre.length = q) (hB : B ≤ 8000000) {n : Int} (hn : 0 ≤ n ∧ n < 18446744073709551616) :
    Calls Tryz.prog 64 #[.pointer (some ⟨x, q, none⟩), .int .u64 n] w fun e w' => e = .returned (.int .i64 (backC S n K false).2.2) ∧ DevTo lab l w x pre post (backC S n K false).1 K (B + 4) w' := by
  cases hp : S.hd.packets.find? (fun r => r.seq == n) with
  | none =>
    rw [backC_none hp]
    refine (timeout_none h hq hn hp).mono ?_
    rintro e w' ⟨rfl, g⟩
    exact ⟨rfl, (h.same g).mono (by omega)⟩
  | some p => exact timeout_some h hl hq hB hn hp

set_option maxRecDepth 100000 in
set_option maxHeartbeats 1600000 in
theorem timeoutClosed_any (h : DevCh lab l w x pre post S K a B) (hl : l ≠ 0) (hq : pre.length = q) (hB : B ≤ 8000000) {n : Int} (hn : 0 ≤ n ∧ n < 18446744073709551616) :
    Calls Tryz.prog 65 #[.pointer (some ⟨x, q, none⟩), .int .u64 n] w fun e w' => e = .returned (.int .i64 (backC S n K true).2.2) ∧ DevTo lab l w x pre post (backC S n K true).1 K (B + 4) w' := by
  have hxl : x < w.heap.size := blk_lt h.blk
  have hkey := keyU hn.1 hn.2
  obtain ⟨c0, c1, c2, c3, c4, c5, c6, c7, c8, c9, c10, c11, c12, c13, c14, c15, c16, c17, c18, c19, c20, c21, cf⟩ := dch_cells h.blk hq
  cases hp : S.hd.packets.find? (fun r => r.seq == n) with
  | none =>
    rw [backC_none hp]
    go_enter Tryz.func65, Tryz.ntmps65
    go_wp2_with (at_lookup; refine wpList_map_lookOk rfl _ _ 83 rfl 28 lawU Tryz.underlying83 Tryz.zeroValue28 rfl h.pend n _ rfl hkey pkZero false (by simp [pkF, hp]) (by simp [pkF, hp]) ?_)
    go_ret
    exact ⟨rfl, (h.same (World.grownBy_alloc w _ none)).mono (by omega)⟩
  | some p =>
    have hB0 : backC S n K true = if K.isOpen then (S, 0, 14) else if n < K.nextRecv then (S, 0, 13) else (((S.gone n).credit p.src p.coin p.amount).shut, 0, 0) := by
      unfold backC
      simp only [hp]
      simp
    rw [hB0]
    by_cases h1 : K.isOpen = true
    · rw [if_pos h1]
      go_enter Tryz.func65, Tryz.ntmps65
      go_wp2_with (at_lookup; refine wpList_map_lookOk rfl _ _ 83 rfl 28 lawU Tryz.underlying83 Tryz.zeroValue28 rfl h.pend n _ rfl hkey p.agg true (by simp [pkF, hp]) (by simp [pkF, hp]) ?_)
      go_ret
      exact ⟨rfl, (h.same (World.grownBy_alloc w _ none)).mono (by omega)⟩
    · rw [if_neg h1]
      have h1' : K.isOpen = false := by simpa using h1
      clear h1
      by_cases h2 : n < K.nextRecv
      · rw [if_pos h2]
        go_enter Tryz.func65, Tryz.ntmps65
        go_wp2_with (at_lookup; refine wpList_map_lookOk rfl _ _ 83 rfl 28 lawU Tryz.underlying83 Tryz.zeroValue28 rfl h.pend n _ rfl hkey p.agg true (by simp [pkF, hp]) (by simp [pkF, hp]) ?_)
        go_ret
        exact ⟨rfl, (h.same (World.grownBy_alloc w _ none)).mono (by omega)⟩
      · rw [if_neg h2]
        have gg := World.grownBy_alloc w (.cells p.arr tPk) none
        have hup := giveUp_any (h.fresh gg) hl hq hB hp
        go_enter Tryz.func65, Tryz.ntmps65
        go_wp2_with (at_lookup; refine wpList_map_lookOk rfl _ _ 83 rfl 28 lawU Tryz.underlying83 Tryz.zeroValue28 rfl h.pend n _ rfl hkey p.agg true (by simp [pkF, hp]) (by simp [pkF, hp]) ?_)
        refine hup.mono ?_
        rintro e w3 ⟨rfl, hd3⟩
        go_wp2_with fail
        go_ret
        exact ⟨rfl, (hd3.trans (grown_stepL gg)).mono (by omega)⟩

end

end Go.Proofs.YtmfdhcnnhlchbaaGreat

namespace Go.Proofs.YtmfdhcnnhlchbaaGreat
open Go.RowKit Go.Maps

section
variable {lab : Nat → Nat} {l : Nat} {w : World} {x q : Nat} {pre post : List Value} {S : Ch} {K : Hd} {a : DAt} {B : Nat}

/-- A look-up of a packet: its value has a packet's form. -/
theorem pk_form (ps : List Pk) (n : Int) : ∃ (r : Pk) (ok : Bool), (pkF ps n).getD (.agg #[.int .u64 0, .int .i64 0, .int .i64 0, .int .i64 0, .int .u64 0, .int .u64 0, .int .u64 0]) = r.agg ∧ (pkF ps n).isSome = ok := by
  unfold pkF
  cases ps.find? (fun p => p.seq == n) with
  | none => exact ⟨⟨0, 0, 0, 0, 0, 0, 0⟩, false, rfl, rfl⟩
  | some p => exact ⟨p, true, rfl, rfl⟩

theorem recv_eq (S : Ch) (n : Int) (K : Hd) (p : Pk) (h1 : S.hd.isOpen = true) (h2 : n = S.hd.nextRecv) (hp : K.packets.find? (fun p => p.seq == n) = some p) (hd : dueB p S.hd.height S.hd.time = false) :
    recvC S n K = ((if goodTo p then S.credit p.dst p.coin p.amount else S).replied (goodTo p), 0, 0) := by
  unfold recvC
  rw [if_neg (by simp [h1]), if_neg (by simp [h2])]
  simp only [hp]
  rw [if_neg (by simp [hd]), h2]
  cases goodTo p <;> rfl

set_option maxRecDepth 100000 in
set_option maxHeartbeats 1600000 in
theorem receive_early (h : DevCh lab l w x pre post S K a B) (hq : pre.length = q) {n : Int} (hn : 0 ≤ n ∧ n < 18446744073709551616) (E : Int) (hE : S.hd.isOpen = false ∧ E = 2 ∨ S.hd.isOpen = true ∧ (n != S.hd.nextRecv) = true ∧ E = 9 ∨ S.hd.isOpen = true ∧ (n != S.hd.nextRecv) = false ∧ K.packets.find? (fun p => p.seq == n) = none ∧ E = 10) :
    Calls Tryz.prog 62 #[.pointer (some ⟨x, q, none⟩), .int .u64 n] w fun e w' => e = .returned (.int .i64 E) ∧ w.grownBy w' none := by
  have hxl : x < w.heap.size := blk_lt h.blk
  have hkey := keyU hn.1 hn.2
  obtain ⟨c0, c1, c2, c3, c4, c5, c6, c7, c8, c9, c10, c11, c12, c13, c14, c15, c16, c17, c18, c19, c20, c21, cf⟩ := dch_cells h.blk hq
  rcases hE with ⟨h1, rfl⟩ | ⟨h1, h2, rfl⟩ | ⟨h1, h2, hp, rfl⟩
  · obtain ⟨r, ok, hr, hok⟩ := pk_form K.packets n
    go_enter Tryz.func62, Tryz.ntmps62
    go_wp2_with (at_lookup; refine wpList_map_lookOk rfl _ _ 83 rfl 28 lawU Tryz.underlying83 Tryz.zeroValue28 rfl h.kpk n _ rfl hkey (Pk.agg r) ok hr hok ?_)
    go_ret
    exact ⟨rfl, World.grownBy_alloc w _ none⟩
  · obtain ⟨r, ok, hr, hok⟩ := pk_form K.packets n
    go_enter Tryz.func62, Tryz.ntmps62
    go_wp2_with (at_lookup; refine wpList_map_lookOk rfl _ _ 83 rfl 28 lawU Tryz.underlying83 Tryz.zeroValue28 rfl h.kpk n _ rfl hkey (Pk.agg r) ok hr hok ?_)
    go_ret
    exact ⟨rfl, World.grownBy_alloc w _ none⟩
  · go_enter Tryz.func62, Tryz.ntmps62
    go_wp2_with (at_lookup; refine wpList_map_lookOk rfl _ _ 83 rfl 28 lawU Tryz.underlying83 Tryz.zeroValue28 rfl h.kpk n _ rfl hkey (.agg #[.int .u64 0, .int .i64 0, .int .i64 0, .int .i64 0, .int .u64 0, .int .u64 0, .int .u64 0]) false (by simp [pkF, hp]) (by simp [pkF, hp]) ?_)
    go_ret
    exact ⟨rfl, World.grownBy_alloc w _ none⟩

set_option maxRecDepth 100000 in
set_option maxHeartbeats 4000000 in
theorem receive_main (h : DevCh lab l w x pre post S K a B) (hl : l ≠ 0) (hq : pre.length = q) (hB : B ≤ 8000000) {n : Int} (hn : 0 ≤ n ∧ n < 18446744073709551616) {p : Pk} (h1o : S.hd.isOpen = true) (h2n : (n != S.hd.nextRecv) = false) (hp : K.packets.find? (fun p => p.seq == n) = some p) :
    Calls Tryz.prog 62 #[.pointer (some ⟨x, q, none⟩), .int .u64 n] w fun e w' => e = .returned (.int .i64 (recvC S n K).2.2) ∧ DevTo lab l w x pre post (recvC S n K).1 K (B + 4) w' := by
  have hxl : x < w.heap.size := blk_lt h.blk
  have hkey := keyU hn.1 hn.2
  have hv := h.goodK.val p (List.mem_of_find?_eq_some hp)
  have h2e : n = S.hd.nextRecv := by simpa using h2n
  obtain ⟨w1, hw1⟩ : ∃ w1 : World, w1 = w.alloc (.cells p.arr tPk) := ⟨_, rfl⟩
  have g1 : w.grownBy w1 none := by rw [hw1]; exact World.grownBy_alloc _ _ _
  have hX1 : w1.heap[w.heap.size]? = some (.cells p.arr tPk (0, 0)) := by rw [hw1]; exact heap_alloc_new w _
  have h1 : DevCh (labN lab w.heap.size) l w1 x pre post S K a B := h.fresh g1
  have hxN : x ≠ w.heap.size := by omega
  obtain ⟨c0, c1, c2, c3, c4, c5, c6, c7, c8, c9, c10, c11, c12, c13, c14, c15, c16, c17, c18, c19, c20, c21, cf⟩ := dch_cells h.blk hq
  have hdue := due_any (w := w1.drew) p S.hd.height S.hd.time
  cases hb : dueB p S.hd.height S.hd.time with
  | true =>
    rw [hb] at hdue
    have hR : recvC S n K = (S, 0, 11) := by
      unfold recvC
      rw [if_neg (by simp [h1o]), if_neg (by simp [h2e])]
      simp only [hp]
      rw [if_pos hb]
    rw [hR]
    clear hR hb h2e
    go_enter Tryz.func62, Tryz.ntmps62
    go_wp2_with (at_lookup; refine wpList_map_lookOk rfl _ _ 83 rfl 28 lawU Tryz.underlying83 Tryz.zeroValue28 rfl h.kpk n _ rfl hkey p.agg true (by simp [pkF, hp]) (by simp [pkF, hp]) ?_)
    rw [← hw1]
    clear hw1 c0 c1 c2 c3 c4 c5 c6 c7 c8 c9 c10 c11 c12 c13 c14 c15 c16 c17 c18 c19 c20 c21 cf
    obtain ⟨d0, d1, d2, d3, d4, d5, d6, d7, d8, d9, d10, d11, d12, d13, d14, d15, d16, d17, d18, d19, d20, d21, df⟩ := dch_cells h1.blk hq
    obtain ⟨x0, x1, x2, x3, x4, x5, x6, xf⟩ := blk7 hX1
    clear d0 d1 d2 d3 d4 d5 d6 d7 d10 d11 d12 d13 d14 d15 d16 d17 d18 d19 d20 d21
    refine wp_region_head 9 (by kernel_rfl) (by kernel_rfl) #[true, true, true, true, true, true, true, true, true, false, false] (by kernel_rfl) ?_
    simp only [List.take_succ_cons, List.take_zero]
    repeat still_step
    refine wpStill_nil ?_
    refine wpAny_ready (rs := [9]) (by kernel_rfl) (by simp) ?_
    refine AllReady.cons (o := _) rfl (fun K hK => ?_) AllReady.nil
    go_simp
    refine hdue.mono ?_
    rintro e w2 ⟨rfl, g2⟩
    refine hK _ _ ?_
    clear hK K
    refine wpAny_take (i := 10) (v := ?v10a) rfl (by kernel_rfl) (by kernel_rfl) (by kernel_rfl) (fun _ _ _ h => h) (Or.inl ⟨by rfl, ?hy10a⟩) ?rest10a
    case hy10a =>
      intro w
      go_simp
      with_reducible rfl
    refine wpAny_done (by kernel_rfl) ?_ _
    have gg : w.grownBy w2 none := grown_trans g1 ⟨g2.os, g2.tape, g2.output, g2.size, g2.block⟩ (by simp)
    go_wp2_with fail
    go_ret
    exact ⟨rfl, (h.same gg).mono (by omega)⟩
  | false =>
    rw [hb] at hdue
    rw [recv_eq S n K p h1o h2e hp hb]
    have hacc := fun W => account_any (w := W) p.dst
    clear hb h2e
    cases hg : goodTo p with
    | false =>
      have hg' : (decide (0 ≤ p.dst) && decide (p.dst ≤ 2)) = false := hg
      rw [hg'] at hacc
      go_enter Tryz.func62, Tryz.ntmps62
      go_wp2_with (at_lookup; refine wpList_map_lookOk rfl _ _ 83 rfl 28 lawU Tryz.underlying83 Tryz.zeroValue28 rfl h.kpk n _ rfl hkey p.agg true (by simp [pkF, hp]) (by simp [pkF, hp]) ?_)
      rw [← hw1]
      clear hw1 c0 c1 c2 c3 c4 c5 c6 c7 c8 c9 c10 c11 c12 c13 c14 c15 c16 c17 c18 c19 c20 c21 cf
      obtain ⟨d0, d1, d2, d3, d4, d5, d6, d7, d8, d9, d10, d11, d12, d13, d14, d15, d16, d17, d18, d19, d20, d21, df⟩ := dch_cells h1.blk hq
      obtain ⟨x0, x1, x2, x3, x4, x5, x6, xf⟩ := blk7 hX1
      clear d0 d1 d2 d3 d4 d5 d6 d7 d10 d11 d12 d13 d14 d15 d16 d17 d18 d19 d20 d21
      refine wp_region_head 9 (by kernel_rfl) (by kernel_rfl) #[true, true, true, true, true, true, true, true, true, false, false] (by kernel_rfl) ?_
      simp only [List.take_succ_cons, List.take_zero]
      repeat still_step
      refine wpStill_nil ?_
      refine wpAny_ready (rs := [9]) (by kernel_rfl) (by simp) ?_
      refine AllReady.cons (o := _) rfl (fun K hK => ?_) AllReady.nil
      go_simp
      refine hdue.mono ?_
      rintro e w2 ⟨rfl, g2⟩
      refine hK _ _ ?_
      clear hK K
      refine wpAny_take (i := 10) (v := ?v10b) rfl (by kernel_rfl) (by kernel_rfl) (by kernel_rfl) (fun _ _ _ h => h) (Or.inl ⟨by rfl, ?hy10b⟩) ?rest10b
      case hy10b =>
        intro w
        go_simp
        with_reducible rfl
      refine wpAny_done (by kernel_rfl) ?_ _
      have gg : w.grownBy w2 none := grown_trans g1 ⟨g2.os, g2.tape, g2.output, g2.size, g2.block⟩ (by simp)
      have hX2 := (g2.block w.heap.size (blk_lt hX1) (by simp)).trans hX1
      clear x0 x1 x2 x3 x4 x5 x6 xf d8 d9 df
      obtain ⟨x0, x1, x2, x3, x4, x5, x6, xf⟩ := blk7 hX2
      have hrep := reply_any (h.fresh gg) hl hq (by omega) false 2 rfl
      go_wp2_with fail
      refine (hacc _).mono ?_
      rintro e w3 ⟨rfl, rfl⟩
      go_wp2_with fail
      refine hrep.mono ?_
      rintro e w4 ⟨rfl, hd4⟩
      go_wp2_with fail
      go_ret
      exact ⟨rfl, (hd4.trans (grown_stepL gg)).mono (by omega)⟩
    | true =>
      have hg' : (decide (0 ≤ p.dst) && decide (p.dst ≤ 2)) = true := hg
      have hto : 0 ≤ p.dst ∧ p.dst ≤ 2 := by simpa using hg'
      rw [hg'] at hacc
      go_enter Tryz.func62, Tryz.ntmps62
      go_wp2_with (at_lookup; refine wpList_map_lookOk rfl _ _ 83 rfl 28 lawU Tryz.underlying83 Tryz.zeroValue28 rfl h.kpk n _ rfl hkey p.agg true (by simp [pkF, hp]) (by simp [pkF, hp]) ?_)
      rw [← hw1]
      clear hw1 c0 c1 c2 c3 c4 c5 c6 c7 c8 c9 c10 c11 c12 c13 c14 c15 c16 c17 c18 c19 c20 c21 cf
      obtain ⟨d0, d1, d2, d3, d4, d5, d6, d7, d8, d9, d10, d11, d12, d13, d14, d15, d16, d17, d18, d19, d20, d21, df⟩ := dch_cells h1.blk hq
      obtain ⟨x0, x1, x2, x3, x4, x5, x6, xf⟩ := blk7 hX1
      clear d0 d1 d2 d3 d4 d5 d6 d7 d10 d11 d12 d13 d14 d15 d16 d17 d18 d19 d20 d21
      refine wp_region_head 9 (by kernel_rfl) (by kernel_rfl) #[true, true, true, true, true, true, true, true, true, false, false] (by kernel_rfl) ?_
      simp only [List.take_succ_cons, List.take_zero]
      repeat still_step
      refine wpStill_nil ?_
      refine wpAny_ready (rs := [9]) (by kernel_rfl) (by simp) ?_
      refine AllReady.cons (o := _) rfl (fun K hK => ?_) AllReady.nil
      go_simp
      refine hdue.mono ?_
      rintro e w2 ⟨rfl, g2⟩
      refine hK _ _ ?_
      clear hK K
      refine wpAny_take (i := 10) (v := ?v10c) rfl (by kernel_rfl) (by kernel_rfl) (by kernel_rfl) (fun _ _ _ h => h) (Or.inl ⟨by rfl, ?hy10c⟩) ?rest10c
      case hy10c =>
        intro w
        go_simp
        with_reducible rfl
      refine wpAny_done (by kernel_rfl) ?_ _
      have gg : w.grownBy w2 none := grown_trans g1 ⟨g2.os, g2.tape, g2.output, g2.size, g2.block⟩ (by simp)
      have hX2 := (g2.block w.heap.size (blk_lt hX1) (by simp)).trans hX1
      clear x0 x1 x2 x3 x4 x5 x6 xf d8 d9 df
      obtain ⟨x0, x1, x2, x3, x4, x5, x6, xf⟩ := blk7 hX2
      have hgive := give_any (n := p.amount) (h.fresh gg) hl hq (by omega) hto hv.2
      go_wp2_with fail
      refine (hacc _).mono ?_
      rintro e w3 ⟨rfl, rfl⟩
      go_wp2_with fail
      refine hgive.mono ?_
      rintro e w4 ⟨rfl, lab4, a4, h4, st4⟩
      have hrep := reply_any h4 hl hq (by omega) true 1 rfl
      go_wp2_with fail
      refine hrep.mono ?_
      rintro e w5 ⟨rfl, hd5⟩
      go_wp2_with fail
      go_ret
      exact ⟨rfl, (hd5.trans ((grown_stepL gg).trans st4)).mono (by omega)⟩

end

end Go.Proofs.YtmfdhcnnhlchbaaGreat

namespace Go.Proofs.YtmfdhcnnhlchbaaGreat
open Go.RowKit Go.Maps

section
variable {lab : Nat → Nat} {l : Nat} {w : World} {x q : Nat} {pre post : List Value} {S : Ch} {K : Hd} {a : DAt} {B : Nat}

theorem ans_form (l : List (Int × Bool)) (n : Int) : ∃ (va : Int) (ok : Bool), (ansF l n).getD (.int .i64 0) = .int .i64 va ∧ (ansF l n).isSome = ok := by
  unfold ansF
  cases l.find? (fun a => a.1 == n) with
  | none => exact ⟨0, false, rfl, rfl⟩
  | some p => exact ⟨if p.2 then 1 else 2, true, rfl, rfl⟩

set_option maxRecDepth 100000 in
set_option maxHeartbeats 4000000 in
theorem ack_any (h : DevCh lab l w x pre post S K a B) (hl : l ≠ 0) (hq : pre.length = q) (hB : B ≤ 8000000) {n : Int} (hn : 0 ≤ n ∧ n < 18446744073709551616) :
    Calls Tryz.prog 63 #[.pointer (some ⟨x, q, none⟩), .int .u64 n] w fun e w' => e = .returned (.int .i64 (ackC S n K).2.2) ∧ DevTo lab l w x pre post (ackC S n K).1 K (B + 4) w' := by
  have hxl : x < w.heap.size := blk_lt h.blk
  have hkey := keyU hn.1 hn.2
  obtain ⟨va, ok, hva, hok⟩ := ans_form K.answers n
  obtain ⟨c0, c1, c2, c3, c4, c5, c6, c7, c8, c9, c10, c11, c12, c13, c14, c15, c16, c17, c18, c19, c20, c21, cf⟩ := dch_cells h.blk hq
  cases hp : S.hd.packets.find? (fun r => r.seq == n) with
  | none =>
    have hA : ackC S n K = (S, 0, 10) := by unfold ackC; simp only [hp]
    rw [hA]
    go_enter Tryz.func63, Tryz.ntmps63
    go_wp2_with (first | (at_lookup; refine wpList_map_lookOk rfl _ _ 83 rfl 28 lawU Tryz.underlying83 Tryz.zeroValue28 rfl h.pend n _ rfl hkey (.agg #[.int .u64 0, .int .i64 0, .int .i64 0, .int .i64 0, .int .u64 0, .int .u64 0, .int .u64 0]) false (by simp [pkF, hp]) (by simp [pkF, hp]) ?_) | (at_lookup; refine wpList_map_lookOk rfl _ _ 91 rfl 161 lawU Tryz.underlying91 Tryz.zeroValue161 rfl (h.kan.keep (heap_alloc_old w _ h.kan.lt)) n _ rfl hkey (.int .i64 va) ok hva hok ?_))
    go_ret
    exact ⟨rfl, (h.same (World.grownBy_alloc w _ none)).mono (by omega)⟩
  | some p =>
    have gg := World.grownBy_alloc w (.cells p.arr tPk) none
    have hear := earlier_any (h.fresh gg) hq (by omega) n
    have hX1 : (w.alloc (.cells p.arr tPk)).heap[w.heap.size]? = some (.cells p.arr tPk (0, 0)) := heap_alloc_new w _
    have hv := h.good.hd.val p (List.mem_of_find?_eq_some hp)
    by_cases he : earlierB S.hd.packets n = true
    · have hA : ackC S n K = (S, 0, 9) := by
        unfold ackC
        simp only [hp]
        rw [if_pos ((earlier_head h.good.hd.seqs hp).1 he)]
      rw [hA]
      rw [he] at hear
      clear hA he
      go_enter Tryz.func63, Tryz.ntmps63
      go_wp2_with (first | (at_lookup; refine wpList_map_lookOk rfl _ _ 83 rfl 28 lawU Tryz.underlying83 Tryz.zeroValue28 rfl h.pend n _ rfl hkey p.agg true (by simp [pkF, hp]) (by simp [pkF, hp]) ?_) | (at_lookup; refine wpList_map_lookOk rfl _ _ 91 rfl 161 lawU Tryz.underlying91 Tryz.zeroValue161 rfl (h.kan.keep (heap_alloc_old w _ h.kan.lt)) n _ rfl hkey (.int .i64 va) ok hva hok ?_))
      refine hear.mono ?_
      rintro e w2 ⟨rfl, g2⟩
      go_wp2_with fail
      go_ret
      exact ⟨rfl, (h.same (grown_trans gg g2 (by simp))).mono (by omega)⟩
    · have he' : earlierB S.hd.packets n = false := by simpa using he
      have hhd : ¬ (S.hd.packets.head?.map (fun q => q.seq == n)) = some false := fun e => he ((earlier_head h.good.hd.seqs hp).2 e)
      rw [he'] at hear
      clear he he'
      cases ha : K.answers.find? (fun a => a.1 == n) with
      | none =>
        have hA : ackC S n K = (S, 0, 12) := by
          unfold ackC
          simp only [hp, ha]
          rw [if_neg hhd]
        rw [hA]
        obtain rfl : ok = false := by rw [← hok]; simp [ansF, ha]
        clear hA hhd
        go_enter Tryz.func63, Tryz.ntmps63
        go_wp2_with (first | (at_lookup; refine wpList_map_lookOk rfl _ _ 83 rfl 28 lawU Tryz.underlying83 Tryz.zeroValue28 rfl h.pend n _ rfl hkey p.agg true (by simp [pkF, hp]) (by simp [pkF, hp]) ?_) | (at_lookup; refine wpList_map_lookOk rfl _ _ 91 rfl 161 lawU Tryz.underlying91 Tryz.zeroValue161 rfl (h.kan.keep (heap_alloc_old w _ h.kan.lt)) n _ rfl hkey (.int .i64 va) false hva hok ?_))
        refine hear.mono ?_
        rintro e w2 ⟨rfl, g2⟩
        go_wp2_with fail
        go_ret
        exact ⟨rfl, (h.same (grown_trans gg g2 (by simp))).mono (by omega)⟩
      | some b =>
        have hA : ackC S n K = (if b.2 then S.gone n else (S.gone n).credit p.src p.coin p.amount, 0, 0) := by
          unfold ackC
          simp only [hp, ha]
          rw [if_neg hhd]
        rw [hA]
        obtain rfl : ok = true := by rw [← hok]; simp [ansF, ha]
        have hvb : va = if b.2 then 1 else 2 := by simp [ansF, ha, ansV] at hva; exact hva.symm
        clear hA hhd
        cases hb : b.2 with
        | true =>
          obtain rfl : va = 1 := by rw [hvb, hb]; rfl
          clear hvb
          go_enter Tryz.func63, Tryz.ntmps63
          go_wp2_with (first | (at_lookup; refine wpList_map_lookOk rfl _ _ 83 rfl 28 lawU Tryz.underlying83 Tryz.zeroValue28 rfl h.pend n _ rfl hkey p.agg true (by simp [pkF, hp]) (by simp [pkF, hp]) ?_) | (at_lookup; refine wpList_map_lookOk rfl _ _ 91 rfl 161 lawU Tryz.underlying91 Tryz.zeroValue161 rfl (h.kan.keep (heap_alloc_old w _ h.kan.lt)) n _ rfl hkey (.int .i64 1) true hva hok ?_))
          refine hear.mono ?_
          rintro e w2 ⟨rfl, g2⟩
          have g02 := grown_trans gg g2 (by simp)
          have hdrop := drop_any (h.fresh g02) hl hq (by omega) hp
          go_wp2_with fail
          refine hdrop.mono ?_
          rintro e w3 ⟨rfl, hd3⟩
          go_wp2_with fail
          go_ret
          exact ⟨rfl, (hd3.trans (grown_stepL g02)).mono (by omega)⟩
        | false =>
          obtain rfl : va = 2 := by rw [hvb, hb]; rfl
          clear hvb
          go_enter Tryz.func63, Tryz.ntmps63
          go_wp2_with (first | (at_lookup; refine wpList_map_lookOk rfl _ _ 83 rfl 28 lawU Tryz.underlying83 Tryz.zeroValue28 rfl h.pend n _ rfl hkey p.agg true (by simp [pkF, hp]) (by simp [pkF, hp]) ?_) | (at_lookup; refine wpList_map_lookOk rfl _ _ 91 rfl 161 lawU Tryz.underlying91 Tryz.zeroValue161 rfl (h.kan.keep (heap_alloc_old w _ h.kan.lt)) n _ rfl hkey (.int .i64 2) true hva hok ?_))
          refine hear.mono ?_
          rintro e w2 ⟨rfl, g2⟩
          have g02 := grown_trans gg g2 (by simp)
          have hX2 := (g2.block w.heap.size (blk_lt hX1) (by simp)).trans hX1
          have hdrop := drop_any (h.fresh g02) hl hq (by omega) hp
          go_wp2_with fail
          refine hdrop.mono ?_
          rintro e w3 ⟨rfl, lab3, a3, h3, st3⟩
          have hX3 := (st3.block w.heap.size (blk_lt hX2) (by rw [labN_new (Nat.le_refl _)]; exact fun e => hl e.symm) (by omega)).trans hX2
          have hback := comeBack_any (p := p) h3 hl hq (by omega) hv
          obtain ⟨x0, x1, x2, x3, x4, x5, x6, xf⟩ := blk7 hX3
          go_wp2_with fail
          refine hback.mono ?_
          rintro e w4 ⟨rfl, hd4⟩
          go_wp2_with fail
          go_ret
          exact ⟨rfl, (hd4.trans ((grown_stepL g02).trans st3)).mono (by omega)⟩

end

end Go.Proofs.YtmfdhcnnhlchbaaGreat

namespace Go.Proofs.YtmfdhcnnhlchbaaGreat
open Go.RowKit Go.Maps

section
variable {lab : Nat → Nat} {l : Nat} {w : World} {x q : Nat} {pre post : List Value} {S : Ch} {K : Hd} {a : DAt} {B : Nat} {hs : List HdN} {ah : Option Addr} {ln ch : Nat} {n : Int} {p : Pk}

/-- What a chain's step has left: r.1 the chain; the header that it knows is one of the other's. -/
def DStep (lab : Nat → Nat) (l : Nat) (w : World) (x : Nat) (pre post : List Value) (r : Ch × Int × Int) (hs : List HdN) (B : Nat) (e : Ending) (w' : World) : Prop :=
  e = .returned (.tuple #[.int .u64 r.2.1, .int .i64 r.2.2]) ∧ ∃ y, hs[r.1.known]? = some y ∧ DevTo lab l w x pre post r.1 y.hd B w'

theorem Others.grown {lab : Nat → Nat} {w w' : World} {f g o : Nat} (O : Others lab l w x hs f g o ln B) (gr : w.grownBy w' none) : Others (labN lab w.heap.size) l w' x hs f g o ln B :=
  ⟨fun i y hi j v hv => by rw [← O.cells i y hi j v hv]; simp only [World.cell?, gr.block g O.gl (by simp)], Nat.lt_of_lt_of_le O.gl gr.size, by rw [labN_old O.gl]; exact O.lg, O.ne, O.all, O.pos, fun y hy => (O.each y hy).keep (fun k hk _ => gr.block k hk (by simp)) (fun k hk => labN_old hk), O.told, O.good, O.lens, O.hseq, O.len⟩

theorem known_plain (h : DevCh lab l w x pre post S K a B) (m : Nat) : DevCh lab l w x pre post { S with known := m } K a B :=
  dev_plain h (grown_refl w _) h.blk rfl rfl rfl rfl rfl (fun _ => rfl)

theorem tick_num (S : Ch) (n : Int) : (tickC S n).2.1 = 0 ∧ (tickC S n).1.known = S.known := by unfold tickC; split <;> exact ⟨rfl, rfl⟩
theorem send_known (S : Ch) (p : Pk) : (sendC S p).1.known = S.known := by rw [sendC_eq]; split <;> rfl
theorem recv_num (S : Ch) (n : Int) (K : Hd) : (recvC S n K).2.1 = 0 ∧ (recvC S n K).1.known = S.known := by
  unfold recvC
  repeat' split
  all_goals exact ⟨rfl, rfl⟩
theorem ack_num (S : Ch) (n : Int) (K : Hd) : (ackC S n K).2.1 = 0 ∧ (ackC S n K).1.known = S.known := by
  unfold ackC
  repeat' split
  all_goals first | exact ⟨rfl, rfl⟩ | (refine ⟨rfl, ?_⟩; dsimp only; split <;> rfl)
theorem back_num (S : Ch) (n : Int) (K : Hd) (b : Bool) : (backC S n K b).2.1 = 0 ∧ (backC S n K b).1.known = S.known := by
  unfold backC
  repeat' split
  all_goals exact ⟨rfl, rfl⟩
theorem close_num (S : Ch) : (closeC S).2.1 = 0 ∧ (closeC S).1.known = S.known := by unfold closeC; split <;> exact ⟨rfl, rfl⟩
theorem confirm_num (S : Ch) (K : Hd) : (confirmC S K).2.1 = 0 ∧ (confirmC S K).1.known = S.known := by
  unfold confirmC
  repeat' split
  all_goals exact ⟨rfl, rfl⟩

abbrev StepCall (w : World) (x q : Nat) (k n : Int) (p : Pk) (ah : Option Addr) (ln ch : Nat) (Q : Ending → World → Prop) : Prop := Calls Tryz.prog 47 #[.pointer (some ⟨x, q, none⟩), stepAgg k n p, .slice ah ln ch] w Q

abbrev stepArr (k n : Int) (p : Pk) : Array Value := #[.int .i64 k, .int .u64 n, .int .u64 p.seq, .int .i64 p.src, .int .i64 p.dst, .int .i64 p.coin, .int .u64 p.amount, .int .u64 p.height, .int .u64 p.time]

theorem receive_any (h : DevCh lab l w x pre post S K a B) (hl : l ≠ 0) (hq : pre.length = q) (hB : B ≤ 8000000) (hn : 0 ≤ n ∧ n < 18446744073709551616) :
    Calls Tryz.prog 62 #[.pointer (some ⟨x, q, none⟩), .int .u64 n] w fun e w' => e = .returned (.int .i64 (recvC S n K).2.2) ∧ DevTo lab l w x pre post (recvC S n K).1 K (B + 4) w' := by
  have early : ∀ E, recvC S n K = (S, 0, E) → (S.hd.isOpen = false ∧ E = 2 ∨ S.hd.isOpen = true ∧ (n != S.hd.nextRecv) = true ∧ E = 9 ∨ S.hd.isOpen = true ∧ (n != S.hd.nextRecv) = false ∧ K.packets.find? (fun p => p.seq == n) = none ∧ E = 10) →
      Calls Tryz.prog 62 #[.pointer (some ⟨x, q, none⟩), .int .u64 n] w fun e w' => e = .returned (.int .i64 (recvC S n K).2.2) ∧ DevTo lab l w x pre post (recvC S n K).1 K (B + 4) w' := by
    intro E hR hE
    rw [hR]
    refine (receive_early h hq hn E hE).mono ?_
    rintro e w' ⟨rfl, g⟩
    exact ⟨rfl, (h.same g).mono (by omega)⟩
  by_cases h1 : S.hd.isOpen = false
  · exact early 2 (by unfold recvC; rw [if_pos h1]) (.inl ⟨h1, rfl⟩)
  · have h1' : S.hd.isOpen = true := by simpa using h1
    by_cases h2 : n = S.hd.nextRecv
    · cases hp : K.packets.find? (fun p => p.seq == n) with
      | none => exact early 10 (by unfold recvC; rw [if_neg h1, if_neg (by simp [h2])]; simp only [hp]) (.inr (.inr ⟨h1', by simp [h2], hp, rfl⟩))
      | some p => exact receive_main h hl hq hB hn h1' (by simp [h2]) hp
    · exact early 9 (by unfold recvC; rw [if_neg h1, if_pos h2]) (.inr (.inl ⟨h1', by simpa using h2, rfl⟩))

set_option maxRecDepth 100000 in
theorem step_send (h : DevCh lab l w x pre post S K a B) (hl : l ≠ 0) (hq : pre.length = q) (hB : B ≤ 8000000) {y : HdN} (hy : hs[S.known]? = some y) (hK : y.hd = K) :
    StepCall w x q 1 n p ah ln ch (DStep lab l w x pre post (doC S 1 n p K hs.length) hs (B + 4)) := by
  have g1 := World.grownBy_alloc w (.cells (stepArr 1 n p) 30) none
  have hc := send_any (p := p) (h.fresh g1) hl hq (by omega)
  rw [show doC S 1 n p K hs.length = sendC S p from by simp [doC]]
  go_enter Tryz.func47, Tryz.ntmps47
  go_wp2_with fail
  refine hc.mono ?_
  rintro e w2 ⟨rfl, hd⟩
  go_wp2_with fail
  go_ret2
  refine ⟨rfl, y, by rw [send_known]; exact hy, ?_⟩
  rw [hK]
  exact (hd.trans (grown_stepL g1)).mono (by omega)

set_option maxRecDepth 100000 in
theorem step_tick (h : DevCh lab l w x pre post S K a B) (hl : l ≠ 0) (hq : pre.length = q) (hB : B ≤ 8000000) (hh : S.hd.height + 1 = S.heads.length) {y : HdN} (hy : hs[S.known]? = some y) (hK : y.hd = K) :
    StepCall w x q 2 n p ah ln ch (DStep lab l w x pre post (doC S 2 n p K hs.length) hs (B + 4)) := by
  have g1 := World.grownBy_alloc w (.cells (stepArr 2 n p) 30) none
  have hc := tick_any (h.fresh g1) hl hq (by omega) hh n
  rw [show doC S 2 n p K hs.length = tickC S n from by simp [doC]]
  go_enter Tryz.func47, Tryz.ntmps47
  go_wp2_with fail
  refine hc.mono ?_
  rintro e w2 ⟨rfl, hd⟩
  go_wp2_with fail
  go_ret2
  refine ⟨by rw [(tick_num S n).1]; rfl, y, by rw [(tick_num S n).2]; exact hy, ?_⟩
  rw [hK]
  exact (hd.trans (grown_stepL g1)).mono (by omega)

set_option maxRecDepth 100000 in
theorem step_recv (h : DevCh lab l w x pre post S K a B) (hl : l ≠ 0) (hq : pre.length = q) (hB : B ≤ 8000000) (hn : 0 ≤ n ∧ n < 18446744073709551616) {y : HdN} (hy : hs[S.known]? = some y) (hK : y.hd = K) :
    StepCall w x q 4 n p ah ln ch (DStep lab l w x pre post (doC S 4 n p K hs.length) hs (B + 4)) := by
  have g1 := World.grownBy_alloc w (.cells (stepArr 4 n p) 30) none
  have hc := receive_any (h.fresh g1) hl hq hB hn
  rw [show doC S 4 n p K hs.length = recvC S n K from by simp [doC]]
  go_enter Tryz.func47, Tryz.ntmps47
  go_wp2_with fail
  refine hc.mono ?_
  rintro e w2 ⟨rfl, hd⟩
  go_wp2_with fail
  go_ret2
  refine ⟨by rw [(recv_num S n K).1]; rfl, y, by rw [(recv_num S n K).2]; exact hy, ?_⟩
  rw [hK]
  exact (hd.trans (grown_stepL g1)).mono (by omega)

set_option maxRecDepth 100000 in
theorem step_ack (h : DevCh lab l w x pre post S K a B) (hl : l ≠ 0) (hq : pre.length = q) (hB : B ≤ 8000000) (hn : 0 ≤ n ∧ n < 18446744073709551616) {y : HdN} (hy : hs[S.known]? = some y) (hK : y.hd = K) :
    StepCall w x q 5 n p ah ln ch (DStep lab l w x pre post (doC S 5 n p K hs.length) hs (B + 4)) := by
  have g1 := World.grownBy_alloc w (.cells (stepArr 5 n p) 30) none
  have hc := ack_any (h.fresh g1) hl hq hB hn
  rw [show doC S 5 n p K hs.length = ackC S n K from by simp [doC]]
  go_enter Tryz.func47, Tryz.ntmps47
  go_wp2_with fail
  refine hc.mono ?_
  rintro e w2 ⟨rfl, hd⟩
  go_wp2_with fail
  go_ret2
  refine ⟨by rw [(ack_num S n K).1]; rfl, y, by rw [(ack_num S n K).2]; exact hy, ?_⟩
  rw [hK]
  exact (hd.trans (grown_stepL g1)).mono (by omega)

set_option maxRecDepth 100000 in
theorem step_timeout (h : DevCh lab l w x pre post S K a B) (hl : l ≠ 0) (hq : pre.length = q) (hB : B ≤ 8000000) (hn : 0 ≤ n ∧ n < 18446744073709551616) {y : HdN} (hy : hs[S.known]? = some y) (hK : y.hd = K) :
    StepCall w x q 6 n p ah ln ch (DStep lab l w x pre post (doC S 6 n p K hs.length) hs (B + 4)) := by
  have g1 := World.grownBy_alloc w (.cells (stepArr 6 n p) 30) none
  have hc := timeout_any (h.fresh g1) hl hq hB hn
  rw [show doC S 6 n p K hs.length = backC S n K false from by simp [doC]]
  go_enter Tryz.func47, Tryz.ntmps47
  go_wp2_with fail
  refine hc.mono ?_
  rintro e w2 ⟨rfl, hd⟩
  go_wp2_with fail
  go_ret2
  refine ⟨by rw [(back_num S n K false).1]; rfl, y, by rw [(back_num S n K false).2]; exact hy, ?_⟩
  rw [hK]
  exact (hd.trans (grown_stepL g1)).mono (by omega)

set_option maxRecDepth 100000 in
theorem step_timeoutClosed (h : DevCh lab l w x pre post S K a B) (hl : l ≠ 0) (hq : pre.length = q) (hB : B ≤ 8000000) (hn : 0 ≤ n ∧ n < 18446744073709551616) {y : HdN} (hy : hs[S.known]? = some y) (hK : y.hd = K) :
    StepCall w x q 7 n p ah ln ch (DStep lab l w x pre post (doC S 7 n p K hs.length) hs (B + 4)) := by
  have g1 := World.grownBy_alloc w (.cells (stepArr 7 n p) 30) none
  have hc := timeoutClosed_any (h.fresh g1) hl hq hB hn
  rw [show doC S 7 n p K hs.length = backC S n K true from by simp [doC]]
  go_enter Tryz.func47, Tryz.ntmps47
  go_wp2_with fail
  refine hc.mono ?_
  rintro e w2 ⟨rfl, hd⟩
  go_wp2_with fail
  go_ret2
  refine ⟨by rw [(back_num S n K true).1]; rfl, y, by rw [(back_num S n K true).2]; exact hy, ?_⟩
  rw [hK]
  exact (hd.trans (grown_stepL g1)).mono (by omega)

set_option maxRecDepth 100000 in
theorem step_close (h : DevCh lab l w x pre post S K a B) (hq : pre.length = q) {y : HdN} (hy : hs[S.known]? = some y) (hK : y.hd = K) :
    StepCall w x q 8 n p ah ln ch (DStep lab l w x pre post (doC S 8 n p K hs.length) hs (B + 4)) := by
  have g1 := World.grownBy_alloc w (.cells (stepArr 8 n p) 30) none
  have hc := close_any (h.fresh g1) hq
  rw [show doC S 8 n p K hs.length = closeC S from by simp [doC]]
  go_enter Tryz.func47, Tryz.ntmps47
  go_wp2_with fail
  refine hc.mono ?_
  rintro e w2 ⟨rfl, hd⟩
  go_wp2_with fail
  go_ret2
  refine ⟨by rw [(close_num S).1]; rfl, y, by rw [(close_num S).2]; exact hy, ?_⟩
  rw [hK]
  exact (hd.trans (grown_stepL g1)).mono (by omega)

set_option maxRecDepth 100000 in
theorem step_confirm (h : DevCh lab l w x pre post S K a B) (hq : pre.length = q) {y : HdN} (hy : hs[S.known]? = some y) (hK : y.hd = K) :
    StepCall w x q 9 n p ah ln ch (DStep lab l w x pre post (doC S 9 n p K hs.length) hs (B + 4)) := by
  have g1 := World.grownBy_alloc w (.cells (stepArr 9 n p) 30) none
  have hc := confirm_any (h.fresh g1) hq
  rw [show doC S 9 n p K hs.length = confirmC S K from by simp [doC]]
  go_enter Tryz.func47, Tryz.ntmps47
  go_wp2_with fail
  refine hc.mono ?_
  rintro e w2 ⟨rfl, hd⟩
  go_wp2_with fail
  go_ret2
  refine ⟨by rw [(confirm_num S K).1]; rfl, y, by rw [(confirm_num S K).2]; exact hy, ?_⟩
  rw [hK]
  exact (hd.trans (grown_stepL g1)).mono (by omega)

set_option maxRecDepth 100000 in
theorem step_other (h : DevCh lab l w x pre post S K a B) {k : Int} {y : HdN} (hy : hs[S.known]? = some y) (hK : y.hd = K) (k1 : (k == 1) = false) (k2 : (k == 2) = false) (k3 : (k == 3) = false) (k4 : (k == 4) = false) (k5 : (k == 5) = false) (k6 : (k == 6) = false) (k7 : (k == 7) = false) (k8 : (k == 8) = false) (k9 : (k == 9) = false) :
    StepCall w x q k n p ah ln ch (DStep lab l w x pre post (doC S k n p K hs.length) hs (B + 4)) := by
  have g1 := World.grownBy_alloc w (.cells (stepArr k n p) 30) none
  have e : doC S k n p K hs.length = (S, 0, 16) := by
    simp at k1 k2 k3 k4 k5 k6 k7 k8 k9
    simp [doC, k1, k2, k3, k4, k5, k6, k7, k8, k9]
  rw [e]
  clear e
  go_enter Tryz.func47, Tryz.ntmps47
  go_wp2_with fail
  go_ret2
  exact ⟨rfl, y, hy, by rw [hK]; exact (h.same g1).mono (by omega)⟩

set_option maxRecDepth 100000 in
theorem step_update (h : DevCh lab l w x pre post S K a B) (hl : l ≠ 0) (hq : pre.length = q) (hB : B ≤ 8000000) {f g o : Nat} (O : Others lab l w x hs f g o ln B) (hch : ln ≤ ch) (hf : f ≤ S.known) {y : HdN} (hy : hs[S.known]? = some y) (hK : y.hd = K) (hn : 0 ≤ n ∧ n < 18446744073709551616) :
    StepCall w x q 3 n p (some ⟨g, o, none⟩) ln ch (DStep lab l w x pre post (doC S 3 n p K hs.length) hs (B + 4)) := by
  have g1 := World.grownBy_alloc w (.cells (stepArr 3 n p) 30) none
  have hkh : K.height = (S.known : Int) := by rw [← hK]; exact (O.good _ y hy).1
  rw [show doC S 3 n p K hs.length = updateC S n hs.length from by simp [doC]]
  unfold updateC
  by_cases hno : (hs.length : Int) ≤ n ∨ n ≤ S.known
  · rw [if_pos hno]
    have hc := update_no (n := n) (ch := ch) (h.fresh g1) hq (by omega) (O.grown g1) hkh hf hn (by rw [hkh]; omega)
    clear hn hno
    go_enter Tryz.func47, Tryz.ntmps47
    go_wp2_with fail
    refine hc.mono ?_
    rintro e w2 ⟨rfl, rfl⟩
    go_wp2_with fail
    go_ret2
    exact ⟨rfl, y, hy, by rw [hK]; exact (h.same g1).mono (by omega)⟩
  · rw [if_neg hno]
    obtain ⟨m, rfl⟩ : ∃ m : Nat, n = m := ⟨n.toNat, by omega⟩
    have hc := update_ok (h.fresh g1) hl hq (by omega) (O.grown g1) hch hy hK (m := m) hf (by omega) (by omega)
    clear hn hno
    go_enter Tryz.func47, Tryz.ntmps47
    go_wp2_with fail
    refine hc.mono ?_
    rintro e w2 ⟨rfl, hd⟩
    go_wp2_with fail
    go_ret2
    obtain ⟨z, hz, lab2, a2, h2, st2⟩ := hd
    exact ⟨rfl, z, by simpa using hz, lab2, a2, (known_plain h2 _).mono (by omega), (grown_stepL g1).trans st2⟩

end

end Go.Proofs.YtmfdhcnnhlchbaaGreat
