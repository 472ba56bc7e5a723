import Derived.Test.YtmfdhcnnhlchbaaGreatC06
import Derived.Test.YtmfdhcnnhlchbaaGreatC05
import Derived.Deep.RegionHeld3
namespace Go.Proofs.YtmfdhcnnhlchbaaGreat
open Go.RowKit

theorem src2 (w : World) (t : TypeId) (x0 x1 : Value) : srcRow (w.alloc (.cells #[x0, x1] t)) 1 (.slice (some ⟨w.heap.size, 0, none⟩) 2 2) 2 [x0, x1] := by
  refine ⟨rfl, .inr ⟨_, _, rfl, ?_⟩⟩
  intro j u hj
  rw [Addr.add_lit]
  rw [cell_of_row _ _ _ _ _ _ (heap_alloc_new w (.cells #[x0, x1] t))]
  simpa using hj

theorem src1' (w : World) (t : TypeId) (x0 : Value) : srcRow (w.alloc (.cells #[x0] t)) 1 (.slice (some ⟨w.heap.size, 0, none⟩) 1 1) 1 [x0] := by
  refine ⟨rfl, .inr ⟨_, _, rfl, ?_⟩⟩
  intro j u hj
  rw [Addr.add_lit]
  rw [cell_of_row _ _ _ _ _ _ (heap_alloc_new w (.cells #[x0] t))]
  simpa using hj

theorem rep_two (M : Value) (n : Nat) : List.replicate n M ++ [M, M] = List.replicate (n + 2) M := by
  rw [show ([M, M] : List Value) = List.replicate 2 M from rfl, List.replicate_append_replicate]

set_option maxRecDepth 100000 in
set_option maxHeartbeats 800000 in
theorem mine_some {own : Nat → Nat} {w : World} {W g n c : Nat} {ps : List (Nat × Nat)} {ls xs : List Value} {a : WAt} (h : WRep own w W ps ls a) (hl : w.ownsRow 0 tU64 1 (.slice (some ⟨g, 0, none⟩) n c) n xs) (lg : own g = 2)
    (bn : n ≤ 1048576) (bl : a.nl ≤ 1048576) :
    Calls Tryz.prog 40 #[.pointer (some ⟨W, 0, none⟩), .slice (some ⟨g, 0, none⟩) n c] w fun e w' => e = .returned (.tuple #[]) ∧ MineTo own w W ps ls a n (some g) w' := by
  obtain ⟨y0, y1, y2, y3, yf⟩ := blk4 h.blk
  have hW := blk_lt h.blk
  have hg : g < w.heap.size := owns_lt hl rfl
  have hgW : W ≠ g := fun e => by have := h.lb; rw [e, lg] at this; cases this
  have w1 : IntKind.u64.wrap (a.nl : Int) = a.nl := wrapU_small (by omega) (by omega)
  have hx : xs.length = n := by have := hl.1; simpa using this
  obtain ⟨i0, hi0, z0, s0, b0⟩ := info_parts infoU64
  obtain ⟨i1, hi1, z1, s1, b1⟩ := info_parts infoSl
  go_enter Tryz.func40, Tryz.ntmps40
  go_wp2_with fail
  obtain ⟨M, hM⟩ : ∃ M : Int, M = 9223372036854775808 + (a.nl : Int) := ⟨_, rfl⟩
  rw [← hM]
  have HM : Hid (M = 9223372036854775808 + (a.nl : Int)) := hM
  clear hM
  go_loopw [5, 16] (fun _ i wr => ∃ k : Nat, i = .int .i64 k ∧ k ≤ n ∧ w.grownBy wr (some g) ∧ wr.ownsRow 0 tU64 1 (.slice (some ⟨g, 0, none⟩) n c) n (List.replicate k (.int .u64 M) ++ xs.drop k)) (fun _ i _ => n - (intOf i).toNat)
  case atStart => exact ⟨0, rfl, Nat.zero_le _, grown_refl _ _, by simpa using hl⟩
  case round =>
    obtain ⟨k, rfl, hk, g1, hr⟩ := hrel
    by_cases hlt : k < n
    · obtain ⟨⟨v, e1⟩, e2⟩ := row_blk hr hlt
      have hkl : (k : Int) < (n : Int) := by omega
      have hr2 := owns_set hr (i := k) (.int .u64 M)
      rw [put_next hx hlt] at hr2
      clear hr
      go_wp2_with fail
      go_roundw
      case rel => exact ⟨k + 1, by go_num, by omega, grown_set g1 _ _ (.inl rfl), hr2⟩
      case measure => simp [intOf]; omega
    · obtain rfl : k = n := by omega
      have hrow : wr.ownsRow 0 tU64 1 (.slice (some ⟨g, 0, none⟩) k c) k (List.replicate k (.int .u64 M)) := by
        rw [List.drop_of_length_le (by omega), List.append_nil] at hr; exact hr
      clear hr
      have hWr := g1.block W hW (by simp [hgW])
      rw [h.blk] at hWr
      clear y0 y1 y2 y3 yf
      obtain ⟨y0, y1, y2, y3, yf⟩ := blk4 hWr
      go_wp2_with (at_builtin; refine wpList_append_rows rfl (.tmp 24) (.tmp 27) 81 rfl 26 i0 _ 1 8 Tryz.underlying81 hi0 z0 s0 b0 rfl (by decide) (.slice (some ⟨g, 0, none⟩) k c) k (List.replicate k (.int .u64 M)) rfl ?ho (.slice (some ⟨wr.heap.size, 0, none⟩) 2 2) 2 [.int .u64 M, .int .u64 M] rfl ?hs ?h1 ?hb1 ?hb2 ?_)
      case ho => exact hrow.alloc _
      case hs => exact src2 _ _ _ _
      case h1 => intro u hu; simp at hu; subst hu; rfl
      case hb1 => omega
      case hb2 => omega
      intro v2 w2 own2 grow2 lab2
      rw [rep_two] at own2
      obtain ⟨a2, c2, hv2⟩ := owns_form own2
      subst hv2
      have hs1 := g1.size
      have hs2 : wr.heap.size + 1 ≤ w2.heap.size := by have := grow2.size; simp at this; exact this
      have hW2 := (grow2.block W (by simp; omega) (by simp [Value.ownBlock, hgW])).trans ((heap_alloc_old wr _ (by omega)).trans hWr)
      have hls2 : w2.ownsRow 0 tSl 1 (.slice a.al a.nl a.cl) a.nl ls := by
        refine owns_keep h.ls fun q e => ?_
        have hq := owns_lt h.ls e
        have hqg : some q ≠ some g := fun e1 => by simp at e1; have := h.lls q e; rw [e1, lg] at this; cases this
        rw [grow2.block q (by simp; omega) (by simpa [Value.ownBlock] using hqg), heap_alloc_old wr _ (by omega), g1.block q hq hqg]
      clear y0 y1 y2 y3 yf
      obtain ⟨y0, y1, y2, y3, yf⟩ := blk4 hW2
      go_wp2_with (at_builtin; refine wpList_append_rows rfl (.tmp 32) (.tmp 34) 36 rfl 81 i1 _ 1 24 Tryz.underlying36 hi1 z1 s1 b1 rfl (by decide) (.slice a.al a.nl a.cl) a.nl ls rfl ?ho (.slice (some ⟨w2.heap.size, 0, none⟩) 1 1) 1 [.slice a2 (k + 2) c2] rfl ?hs ?h1 ?hb1 ?hb2 ?_)
      case ho => exact hls2.alloc _
      case hs => exact src1' _ _ _
      case h1 => intro u hu; simp at hu; subst hu; rfl
      case hb1 => omega
      case hb2 => omega
      intro v3 w3 own3 grow3 lab3
      obtain ⟨a3, c3, hv3⟩ := owns_form own3
      subst hv3
      have hWl : some W ≠ (Value.slice a.al a.nl a.cl).ownBlock := owns_ne h.blk h.ls (by decide)
      have hW3 := (grow3.block W (by simp; omega) hWl).trans ((heap_alloc_old w2 _ (by omega)).trans hW2)
      have D := mine_done (og := some g) h (fun q e => by simp at e; rw [← e]; exact lg) (fun q e => by simp at e; omega) g1 rfl grow2 (by rw [← HM.out]; exact own2) lab2 grow3 own3 lab3
      clear y0 y1 y2 y3 yf own2 grow2 lab2 own3 grow3 lab3 hls2 hrow
      obtain ⟨y0, y1, y2, y3, yf⟩ := blk4 hW3
      go_wp2_with fail
      go_end0
      exact ⟨rfl, D⟩

set_option maxRecDepth 100000 in
set_option maxHeartbeats 800000 in
theorem mine_nil {own : Nat → Nat} {w : World} {W : Nat} {ps : List (Nat × Nat)} {ls : List Value} {a : WAt} (h : WRep own w W ps ls a) (bl : a.nl ≤ 1048576) :
    Calls Tryz.prog 40 #[.pointer (some ⟨W, 0, none⟩), .slice none 0 0] w fun e w' => e = .returned (.tuple #[]) ∧ MineTo own w W ps ls a 0 none w' := by
  obtain ⟨y0, y1, y2, y3, yf⟩ := blk4 h.blk
  have hW := blk_lt h.blk
  have w1 : IntKind.u64.wrap (a.nl : Int) = a.nl := wrapU_small (by omega) (by omega)
  obtain ⟨i0, hi0, z0, s0, b0⟩ := info_parts infoU64
  obtain ⟨i1, hi1, z1, s1, b1⟩ := info_parts infoSl
  go_enter Tryz.func40, Tryz.ntmps40
  go_wp2_with fail
  obtain ⟨M, hM⟩ : ∃ M : Int, M = 9223372036854775808 + (a.nl : Int) := ⟨_, rfl⟩
  rw [← hM]
  have HM : Hid (M = 9223372036854775808 + (a.nl : Int)) := hM
  clear hM
  refine wp_loop_rounds 1 ?_
  rw [rounds_succ]
  go_wp2_with (at_builtin; refine wpList_append_rows rfl (.tmp 24) (.tmp 27) 81 rfl 26 i0 _ 1 8 Tryz.underlying81 hi0 z0 s0 b0 rfl (by decide) (.slice none 0 0) 0 [] rfl ?ho (.slice (some ⟨w.heap.size, 0, none⟩) 2 2) 2 [.int .u64 M, .int .u64 M] rfl ?hs ?h1 ?hb1 ?hb2 ?_)
  case ho => exact World.ownsRow_nil _ _ _ _
  case hs => exact src2 _ _ _ _
  case h1 => intro u hu; simp at hu; subst hu; rfl
  case hb1 => omega
  case hb2 => omega
  intro v2 w2 own2 grow2 lab2
  obtain ⟨a2, c2, hv2⟩ := owns_form own2
  subst hv2
  have hs2 : w.heap.size + 1 ≤ w2.heap.size := by have := grow2.size; simp at this; exact this
  have hW2 := (grow2.block W (by simp; omega) (by simp [Value.ownBlock])).trans ((heap_alloc_old w _ (by omega)).trans h.blk)
  have hls2 : w2.ownsRow 0 tSl 1 (.slice a.al a.nl a.cl) a.nl ls := by
    refine owns_keep h.ls fun q e => ?_
    have hq := owns_lt h.ls e
    rw [grow2.block q (by simp; omega) (by simp [Value.ownBlock]), heap_alloc_old w _ (by omega)]
  clear y0 y1 y2 y3 yf
  obtain ⟨y0, y1, y2, y3, yf⟩ := blk4 hW2
  go_wp2_with (at_builtin; refine wpList_append_rows rfl (.tmp 32) (.tmp 34) 36 rfl 81 i1 _ 1 24 Tryz.underlying36 hi1 z1 s1 b1 rfl (by decide) (.slice a.al a.nl a.cl) a.nl ls rfl ?ho (.slice (some ⟨w2.heap.size, 0, none⟩) 1 1) 1 [.slice a2 2 c2] rfl ?hs ?h1 ?hb1 ?hb2 ?_)
  case ho => exact hls2.alloc _
  case hs => exact src1' _ _ _
  case h1 => intro u hu; simp at hu; subst hu; rfl
  case hb1 => omega
  case hb2 => omega
  intro v3 w3 own3 grow3 lab3
  obtain ⟨a3, c3, hv3⟩ := owns_form own3
  subst hv3
  have hWl : some W ≠ (Value.slice a.al a.nl a.cl).ownBlock := owns_ne h.blk h.ls (by decide)
  have hW3 := (grow3.block W (by simp; omega) hWl).trans ((heap_alloc_old w2 _ (by omega)).trans hW2)
  have D := mine_done (n := 0) (og := none) h (fun q e => by cases e) (fun q e => by cases e) (grown_refl w none) (v1 := .slice none 0 0) rfl grow2 (by rw [← HM.out]; exact own2) lab2 grow3 own3 lab3
  clear y0 y1 y2 y3 yf own2 grow2 lab2 own3 grow3 lab3 hls2
  obtain ⟨y0, y1, y2, y3, yf⟩ := blk4 hW3
  go_wp2_with fail
  go_end0
  exact ⟨rfl, D⟩

end Go.Proofs.YtmfdhcnnhlchbaaGreat

namespace Go.Proofs.YtmfdhcnnhlchbaaGreat
open Go.RowKit

end Go.Proofs.YtmfdhcnnhlchbaaGreat

namespace Go.Proofs.YtmfdhcnnhlchbaaGreat
open Go.RowKit

theorem heads_len {own : Nat → Nat} {o : Nat} {w : World} {b : Nat} {S : Ch} {a : At} (h : RefCh own o w b S a) : a.hs.length = S.heads.length := by
  have := congrArg List.length h.heads
  simpa using this

theorem heads_at {own : Nat → Nat} {o : Nat} {w : World} {b : Nat} {S O : Ch} {a : At} (h : RefCh own o w b O a) (hk : S.known < O.heads.length) : ∃ K, a.hs[S.known]? = some K ∧ K.hd = knownHd S O := by
  have hl := heads_len h
  refine ⟨a.hs[S.known]'(by omega), List.getElem?_eq_getElem _, ?_⟩
  unfold knownHd
  rw [← h.heads]
  simp [show S.known < a.hs.length by omega]

end Go.Proofs.YtmfdhcnnhlchbaaGreat

namespace Go.Proofs.YtmfdhcnnhlchbaaGreat
open Go.RowKit

/-- WHAT THE PROGRAM OWES: 'Dev own o w x m': behind the pointer to block x the program has the model m, in memory of the label o + 3. -/
structure DevSide (Dev : Nat → (Nat → Nat) → Nat → World → Nat → Mod → Prop) (kd : Int → Prop) : Prop where
  lab : ∀ {N : Nat} {own : Nat → Nat} {o : Nat} {w : World} {x : Nat} {m : Mod}, Dev N own o w x m → x < w.heap.size ∧ own x = o + 3
  mono : ∀ {N M : Nat} {own : Nat → Nat} {o : Nat} {w : World} {x : Nat} {m : Mod}, Dev N own o w x m → N ≤ M → Dev M own o w x m
  keep : ∀ {N : Nat} {own own' : Nat → Nat} {o : Nat} {w w' : World} {x : Nat} {m : Mod} {T : Nat → Prop}, Dev N own o w x m → StepS T own own' w w' → ¬ T (o + 3) → ¬ T 0 → Dev N own' o w' x m
  new : ∀ {own : Nat → Nat} {w : World} {coins : Int} (o : Nat), o ≠ 0 → (∀ k, k < w.heap.size → own k < o) → 0 ≤ coins → ¬ (1152921504606846976 : Int) < coins →
    Calls Tryz.prog 18 #[.int .u64 coins] w fun e w' => ∃ x own', e = .returned (.tuple #[.pointer (some ⟨x, 0, none⟩), .int .i64 0]) ∧ Dev 0 own' o w' x (newMod coins) ∧ StepS (fun _ => False) own own' w w' ∧ (∀ k, w.heap.size ≤ k → k < w'.heap.size → own' k = o + 3 ∨ own' k = 0)
  newNo : ∀ {w : World} {coins : Int}, (1152921504606846976 : Int) < coins → Calls Tryz.prog 18 #[.int .u64 coins] w fun e w' => e = .returned (.tuple #[.pointer none, .int .i64 5]) ∧ w.grownBy w' none
  step : ∀ {N : Nat} {own : Nat → Nat} {o : Nat} {w : World} {x : Nat} {m : Mod} {c : Nat} {k n : Int} {p : Pk}, Dev N own o w x m → o ≠ 0 → Lim m N → N ≤ 1000000 → (c = 0 ∨ c = 1) → kd k → (0 ≤ n ∧ n < 18446744073709551616) →
    Calls Tryz.prog 21 #[.pointer (some ⟨x, 0, none⟩), .int .i64 c, stepAgg k n p] w fun e w' => e = .returned (.tuple #[.int .u64 (doM m c k n p).2.1, .int .i64 (doM m c k n p).2.2]) ∧ ∃ own', Dev (N + 1) own' o w' x (doM m c k n p).1 ∧ StepS (fun l => l = o + 3) own own' w w'
  stepNo : ∀ {N : Nat} {own : Nat → Nat} {o : Nat} {w : World} {x : Nat} {m : Mod} {c k n : Int} {p : Pk}, Dev N own o w x m → c ≠ 0 → c ≠ 1 →
    Calls Tryz.prog 21 #[.pointer (some ⟨x, 0, none⟩), .int .i64 c, stepAgg k n p] w fun e w' => e = .returned (.tuple #[.int .u64 0, .int .i64 1]) ∧ w.grownBy w' none
  look : ∀ {N : Nat} {own : Nat → Nat} {o : Nat} {w : World} {x : Nat} {m : Mod} {c : Int}, Dev N own o w x m → o ≠ 0 → Lim m N → N ≤ 1000000 → (c = 0 ∨ c = 1) →
    Calls Tryz.prog 37 #[.pointer (some ⟨x, 0, none⟩), .int .i64 c] w fun e w' => ∃ al cl own', e = .returned (.tuple #[lookAgg (chainOf m c) al cl, .int .i64 0]) ∧
      w'.ownsRow 0 tU64 1 (.slice al (chainOf m c).hd.packets.length cl) (chainOf m c).hd.packets.length ((chainOf m c).hd.packets.map fun p => .int .u64 p.seq) ∧ (al = none → cl = 0) ∧ labelled own' (.slice al (chainOf m c).hd.packets.length cl) 2 ∧
      (∀ k, (Value.slice al (chainOf m c).hd.packets.length cl).ownBlock = some k → w.heap.size ≤ k) ∧ StepS (fun _ => False) own own' w w'
  lookNo : ∀ {N : Nat} {own : Nat → Nat} {o : Nat} {w : World} {x : Nat} {m : Mod} {c : Int}, Dev N own o w x m → c ≠ 0 → c ≠ 1 →
    Calls Tryz.prog 37 #[.pointer (some ⟨x, 0, none⟩), .int .i64 c] w fun e w' => e = .returned (.tuple #[lookZero, .int .i64 1]) ∧ w.grownBy w' none
  balance : ∀ {N : Nat} {own : Nat → Nat} {o : Nat} {w : World} {x : Nat} {m : Mod} {c user coin : Int}, Dev N own o w x m → (-9223372036854775808 ≤ user ∧ user ≤ 9223372036854775807) → (-9223372036854775808 ≤ coin ∧ coin ≤ 9223372036854775807) →
    Calls Tryz.prog 24 #[.pointer (some ⟨x, 0, none⟩), .int .i64 c, .int .i64 user, .int .i64 coin] w fun e w' => e = .returned (.int .u64 (balM m c user coin)) ∧ w.grownBy w' none
  headNo : ∀ {N : Nat} {own : Nat → Nat} {o : Nat} {w : World} {x : Nat} {m : Mod} {c n : Int}, Dev N own o w x m → c ≠ 0 → c ≠ 1 →
    Calls Tryz.prog 25 #[.pointer (some ⟨x, 0, none⟩), .int .i64 c, .int .u64 n] w fun e w' => e = .returned (.tuple #[headZero, .int .i64 1]) ∧ w.grownBy w' none
  headFar : ∀ {N : Nat} {own : Nat → Nat} {o : Nat} {w : World} {x : Nat} {m : Mod} {c n : Int}, Dev N own o w x m → Lim m N → N ≤ 1000000 → (c = 0 ∨ c = 1) → ((chainOf m c).heads.length : Int) ≤ n →
    Calls Tryz.prog 25 #[.pointer (some ⟨x, 0, none⟩), .int .i64 c, .int .u64 n] w fun e w' => e = .returned (.tuple #[headZero, .int .i64 8]) ∧ w.grownBy w' none
  head : ∀ {N : Nat} {own : Nat → Nat} {o : Nat} {w : World} {x : Nat} {m : Mod} {n : Nat} {c : Int} {K : Hd}, Dev N own o w x m → Lim m N → N ≤ 1000000 → (c = 0 ∨ c = 1) → (chainOf m c).heads[n]? = some K →
    Calls Tryz.prog 25 #[.pointer (some ⟨x, 0, none⟩), .int .i64 c, .int .u64 n] w fun e w' => e = .returned (.tuple #[headAgg K, .int .i64 0]) ∧ w.grownBy w' none
  same : ∀ {N : Nat} {own : Nat → Nat} {o : Nat} {w : World} {x : Nat} {m : Mod} {c n d n2 : Int}, Dev N own o w x m → Lim m N → N ≤ 1000000 → 0 ≤ n → 0 ≤ n2 →
    Calls Tryz.prog 27 #[.pointer (some ⟨x, 0, none⟩), .int .i64 c, .int .u64 n, .int .i64 d, .int .u64 n2] w fun e w' => e = .returned (.bool (sameM m c n d n2)) ∧ w.grownBy w' none
  taken : ∀ {N : Nat} {own : Nat → Nat} {o : Nat} {w : World} {x : Nat} {m : Mod}, Dev N own o w x m →
    Calls Tryz.prog 29 #[.pointer (some ⟨x, 0, none⟩)] w fun e w' => e = .returned (.int .i64 m.taken) ∧ w.grownBy w' none

/-- A pair: its labels, the program's bridge, the document's model, what both hold. -/
structure PairS where
  o : Nat
  x : Nat
  bm : Nat
  m : Mod

def PairOk (Dev : Nat → (Nat → Nat) → Nat → World → Nat → Mod → Prop) (own : Nat → Nat) (w : World) (N : Nat) (q : PairS) : Prop :=
  Dev N own q.o w q.x q.m ∧ (∃ b0 b1 a0 a1, RefMod own q.o w q.bm b0 b1 q.m a0 a1) ∧ Lim q.m N ∧ 3 ≤ q.o

structure Inv (Dev : Nat → (Nat → Nat) → Nat → World → Nat → Mod → Prop) (own : Nat → Nat) (w : World) (W : Nat) (qs : List PairS) (N : Nat) : Prop where
  wr : ∃ ls a, WRep own w W (qs.map fun q => (q.x, q.bm)) ls a ∧ a.nl ≤ N
  ok : ∀ q ∈ qs, PairOk Dev own w N q
  apart : qs.Pairwise (fun q r => q.o + 3 < r.o)
  len : qs.length ≤ N

section
variable {Dev : Nat → (Nat → Nat) → Nat → World → Nat → Mod → Prop} {kd : Int → Prop}

theorem PairOk.keep (D : DevSide Dev kd) {own own' : Nat → Nat} {w w' : World} {N M : Nat} {q : PairS} {T : Nat → Prop} (h : PairOk Dev own w N q) (g : StepS T own own' w w') (hT : ∀ l, T l → l ≠ 0 ∧ (l < q.o ∨ q.o + 3 < l)) (hM : N ≤ M) : PairOk Dev own' w' M q := by
  obtain ⟨h1, ⟨b0, b1, a0, a1, h2⟩, h3, h4⟩ := h
  have no : ∀ l, q.o ≤ l → l ≤ q.o + 3 → ¬ T l := fun l e1 e2 e3 => by have := (hT l e3).2; omega
  have n0 : ¬ T 0 := fun e => (hT 0 e).1 rfl
  exact ⟨D.mono (D.keep h1 g (no _ (by omega) (by omega)) n0) hM, ⟨b0, b1, a0, a1, h2.keepS g n0 (no _ (by omega) (by omega)) (no _ (by omega) (by omega)) (no _ (by omega) (by omega))⟩, h3.mono hM, h4⟩

/-- All pairs stay, and the law's own world, where only what nobody reads has turned. -/
theorem Inv.same (D : DevSide Dev kd) {own own' : Nat → Nat} {w w' : World} {W N M : Nat} {qs : List PairS} {T : Nat → Prop} (h : Inv Dev own w W qs N) (g : StepS T own own' w w') (hT : ∀ l, T l → l = 2) (hM : N ≤ M) : Inv Dev own' w' W qs M := by
  obtain ⟨⟨ls, a, h1, h2⟩, h3, h4, h5⟩ := h
  refine ⟨⟨ls, a, h1.keepS g (fun e => by have := hT 1 e; omega), by omega⟩, fun q hq => (h3 q hq).keep D g (fun l hl => ?_) hM, h4, by omega⟩
  have := hT l hl
  have := (h3 q hq).2.2.2
  omega

/-- One pair turns, and the others stay. -/
theorem Inv.turn (D : DevSide Dev kd) {own own' : Nat → Nat} {w w' : World} {W N M i : Nat} {qs : List PairS} {q : PairS} {T : Nat → Prop} {m' : Mod} (h : Inv Dev own w W qs N) (hi : qs[i]? = some q) (g : StepS T own own' w w') (hT : ∀ l, T l → q.o ≤ l ∧ l ≤ q.o + 3) (hM : N ≤ M)
    (hq : PairOk Dev own' w' M { q with m := m' }) : Inv Dev own' w' W (qs.set i { q with m := m' }) M := by
  obtain ⟨⟨ls, a, h1, h2⟩, h3, h4, h5⟩ := h
  have hil : i < qs.length := (List.getElem?_eq_some_iff.1 hi).1
  have hgi : qs[i] = q := (List.getElem?_eq_some_iff.1 hi).2
  have h3q := (h3 q (List.mem_of_getElem? hi)).2.2.2
  refine ⟨⟨ls, a, ?_, by omega⟩, ?_, ?_, by simpa using (by omega : qs.length ≤ M)⟩
  · have e : (qs.set i { q with m := m' }).map (fun q => (q.x, q.bm)) = qs.map fun q => (q.x, q.bm) := by
      rw [List.map_set]
      apply List.ext_getElem?
      intro j
      rw [List.getElem?_set]
      split
      · rename_i e; subst e; simp [hil, hgi]
      · rfl
    rw [e]
    exact h1.keepS g (fun e => by have := hT 1 e; omega)
  · intro r hr
    obtain ⟨j, hj⟩ := List.getElem?_of_mem hr
    rw [List.getElem?_set] at hj
    split at hj
    · rename_i e
      subst e
      simp at hj
      subst hj
      exact hq
    · rename_i e
      have hjl : j < qs.length := (List.getElem?_eq_some_iff.1 hj).1
      have hgj : qs[j] = r := (List.getElem?_eq_some_iff.1 hj).2
      refine (h3 r (List.mem_of_getElem? hj)).keep D g (fun l hl => ?_) hM
      have h1 := hT l hl
      refine ⟨by omega, ?_⟩
      rcases Nat.lt_or_gt_of_ne e with e1 | e1
      · have := List.pairwise_iff_getElem.1 h4 i j hil hjl e1
        rw [hgi, hgj] at this
        omega
      · have := List.pairwise_iff_getElem.1 h4 j i hjl hil e1
        rw [hgi, hgj] at this
        omega
  · rw [List.pairwise_iff_getElem] at h4 ⊢
    intro a b ha hb hab
    simp only [List.length_set] at ha hb
    have := h4 a b ha hb hab
    rw [List.getElem_set, List.getElem_set]
    split <;> split <;> simp_all

end

end Go.Proofs.YtmfdhcnnhlchbaaGreat

namespace Go.Proofs.YtmfdhcnnhlchbaaGreat
open Go.RowKit

/-- Which of n things a raw number speaks of. -/
def pickV (c : Int) (n : Nat) : Nat := if c < 0 then ((-(c + 1)) % n).toNat else (c % n).toNat

theorem pickV_lt (c : Int) {n : Nat} (hn : 0 < n) : pickV c n < n := by
  unfold pickV
  have h1 := Int.emod_lt_of_pos c (show (0 : Int) < n by omega)
  have h2 := Int.emod_nonneg c (show (n : Int) ≠ 0 by omega)
  have h3 := Int.emod_lt_of_pos (-(c + 1)) (show (0 : Int) < n by omega)
  have h4 := Int.emod_nonneg (-(c + 1)) (show (n : Int) ≠ 0 by omega)
  split <;> omega

set_option maxHeartbeats 400000 in
theorem pick_is (c : Int) (n : Nat) (w : World) (hn : 0 < n) (hn2 : n < 1099511627776) (hc : -9223372036854775808 ≤ c ∧ c ≤ 9223372036854775807) :
    Calls Tryz.prog 20 #[.int .i64 c, .int .i64 n] w fun e w' => e = .returned (.int .i64 (pickV c n)) ∧ w' = w := by
  unfold pickV
  by_cases h : c < 0
  · have H : Hid ((((if c < 0 then ((-(c + 1)) % n).toNat else (c % n).toNat) : Nat) : Int) = (-(c + 1)).tmod n) := by
      rw [if_pos h, Int.tmod_eq_emod_of_nonneg (by omega), Int.toNat_of_nonneg (Int.emod_nonneg _ (by omega))]; trivial
    rw [H.out]
    go_enter Tryz.func20, Tryz.ntmps20
    go_wp2
    go_ret
    exact ⟨by simp, rfl⟩
  · have H : Hid ((((if c < 0 then ((-(c + 1)) % n).toNat else (c % n).toNat) : Nat) : Int) = c % n) := by
      rw [if_neg h, Int.toNat_of_nonneg (Int.emod_nonneg _ (by omega))]; trivial
    rw [H.out]
    go_enter Tryz.func20, Tryz.ntmps20
    go_wp2
    go_ret
    exact ⟨by simp, rfl⟩

abbrev OpV.arr (o : OpV) : Array Value := #[.int .i64 o.kind, .int .i64 o.a, .int .i64 o.c, .int .i64 o.k, .int .u64 o.n, .int .u64 o.p.seq, .int .i64 o.p.src, .int .i64 o.p.dst, .int .i64 o.p.coin, .int .u64 o.p.amount, .int .u64 o.p.height, .int .u64 o.p.time,
  .slice o.vl o.nl o.cl, .slice o.vm o.nm o.cm, .int .u64 o.num, .int .i64 o.d]

theorem blkOp {w : World} {b t : Nat} {o : OpV} (h : w.heap[b]? = some (.cells o.arr t (0, 0))) :
    w.cell? ⟨b, 0, none⟩ = some (.int .i64 o.kind) ∧ w.cell? ⟨b, 1, none⟩ = some (.int .i64 o.a) ∧ w.cell? ⟨b, 2, none⟩ = some (.int .i64 o.c) ∧ w.cell? ⟨b, 3, none⟩ = some (.int .i64 o.k) ∧ w.cell? ⟨b, 4, none⟩ = some (.int .u64 o.n) ∧
    w.cell? ⟨b, 5, none⟩ = some (.int .u64 o.p.seq) ∧ w.cell? ⟨b, 6, none⟩ = some (.int .i64 o.p.src) ∧ w.cell? ⟨b, 7, none⟩ = some (.int .i64 o.p.dst) ∧ w.cell? ⟨b, 8, none⟩ = some (.int .i64 o.p.coin) ∧ w.cell? ⟨b, 9, none⟩ = some (.int .u64 o.p.amount) ∧
    w.cell? ⟨b, 10, none⟩ = some (.int .u64 o.p.height) ∧ w.cell? ⟨b, 11, none⟩ = some (.int .u64 o.p.time) ∧ w.cell? ⟨b, 12, none⟩ = some (.slice o.vl o.nl o.cl) ∧ w.cell? ⟨b, 13, none⟩ = some (.slice o.vm o.nm o.cm) ∧
    w.cell? ⟨b, 14, none⟩ = some (.int .u64 o.num) ∧ w.cell? ⟨b, 15, none⟩ = some (.int .i64 o.d) ∧ (∀ k, w.frozen? ⟨b, k, none⟩ = false) := by
  refine ⟨?_, ?_, ?_, ?_, ?_, ?_, ?_, ?_, ?_, ?_, ?_, ?_, ?_, ?_, ?_, ?_, ?_⟩
  all_goals first
    | (intro k; simp [World.frozen?, h])
    | simp [World.cell?, h]

theorem pair_cells {w : World} {g n cap : Nat} {l : List (Nat × Nat)} {x : Nat × Nat} {i : Nat} (h : w.ownsRow 0 tPair 2 (.slice (some ⟨g, 0, none⟩) n cap) n (l.flatMap pairCells)) (hi : l[i]? = some x) :
    w.cell? ⟨g, i * 2, none⟩ = some (.pointer (some ⟨x.1, 0, none⟩)) ∧ w.cell? ⟨g, i * 2 + 1, none⟩ = some (.pointer (some ⟨x.2, 0, none⟩)) := by
  have hc := h.cells (g := g) rfl
  have get : ∀ j v, (pairCells x)[j]? = some v → w.cell? ⟨g, i * 2 + j, none⟩ = some v := by
    intro j v hv
    have hj : j < 2 := by have := (List.getElem?_eq_some_iff.1 hv).1; simpa [pairCells] using this
    have := hc (i * 2 + j) v (by rw [flat_get pairCells 2 (fun _ => rfl) l i j x hi hj]; exact hv)
    rw [Addr.add_lit] at this
    simpa using this
  exact ⟨get 0 _ rfl, get 1 _ rfl⟩

/-- What a step of the law has left. -/
def StepTo (Dev : Nat → (Nat → Nat) → Nat → World → Nat → Mod → Prop) (own : Nat → Nat) (w : World) (W N : Nat) (w' : World) : Prop := ∃ own' qs', Inv Dev own' w' W qs' (N + 1) ∧ StepS (fun l => l ≠ 0) own own' w w'

theorem cell_grown {w w' : World} (g : w.grownBy w' none) {b : Nat} (hb : b < w.heap.size) : ∀ j, w'.cell? ⟨b, j, none⟩ = w.cell? ⟨b, j, none⟩ := fun _ => World.cell?_of_block (g.block b hb (by simp))

theorem blk2 {w : World} {b t : Nat} {x0 x1 : Value} (h : w.heap[b]? = some (.cells #[x0, x1] t (0, 0))) : w.cell? ⟨b, 0, none⟩ = some x0 ∧ w.cell? ⟨b, 1, none⟩ = some x1 ∧ (∀ k, w.frozen? ⟨b, k, none⟩ = false) := by
  refine ⟨?_, ?_, ?_⟩
  all_goals first
    | (intro k; simp [World.frozen?, h])
    | simp [World.cell?, h]

end Go.Proofs.YtmfdhcnnhlchbaaGreat

namespace Go.Proofs.YtmfdhcnnhlchbaaGreat
open Go.RowKit

theorem label_bound (own : Nat → Nat) (n : Nat) : ∃ L, 3 ≤ L ∧ ∀ k, k < n → own k < L := by
  induction n with
  | zero => exact ⟨3, Nat.le_refl _, fun k hk => by omega⟩
  | succ n ih =>
    obtain ⟨L, h1, h2⟩ := ih
    refine ⟨max L (own n + 1), by omega, fun k hk => ?_⟩
    by_cases e : k = n
    · subst e; omega
    · have := h2 k (by omega); omega

/-- The law's world with one pair more. -/
theorem bs_done {own : Nat → Nat} {w w3 : World} {W : Nat} {ps : List (Nat × Nat)} {ls : List Value} {a : WAt} {X : Obj} {x : Nat × Nat} {a3 : Option Addr} {c3 : Nat} (h : WRep own w W ps ls a)
    (grow3 : (w.alloc X).grownBy w3 (Value.slice a.ab ps.length a.cb).ownBlock) (own3 : w3.ownsRow 0 tPair 2 (.slice a3 (ps.length + 1) c3) (ps.length + 1) (ps.flatMap pairCells ++ pairCells x)) (lab3 : fresh (w.alloc X) (.slice a.ab ps.length a.cb) (.slice a3 (ps.length + 1) c3)) :
    ∃ own', WRep own' (w3.setCell ⟨W, 0, none⟩ (.slice a3 (ps.length + 1) c3)) W (ps ++ [x]) ls { a with ab := a3, cb := c3 } ∧ StepS (fun l => l = 1) own own' w (w3.setCell ⟨W, 0, none⟩ (.slice a3 (ps.length + 1) c3)) := by
  have hW := blk_lt h.blk
  have s3 : w.heap.size + 1 ≤ w3.heap.size := by have := grow3.size; simp at this; exact this
  have far : ∀ k, k < w.heap.size → some k ≠ (Value.slice a.ab ps.length a.cb).ownBlock → w3.heap[k]? = w.heap[k]? := by
    intro k hk e2
    rw [grow3.block k (by simp; omega) e2, heap_alloc_old _ _ hk]
  have hWl : some W ≠ (Value.slice a.ab ps.length a.cb).ownBlock := owns_ne h.blk h.bs (by decide)
  have hB3 : w3.heap[W]? = _ := (far W hW hWl).trans h.blk
  have hW3 : some W ≠ (Value.slice a3 (ps.length + 1) c3).ownBlock := owns_ne hB3 own3 (by decide)
  have keep : ∀ k, k < w.heap.size → own k ≠ 1 → (w3.setCell ⟨W, 0, none⟩ (.slice a3 (ps.length + 1) c3)).heap[k]? = w.heap[k]? := by
    intro k hk e1
    rw [setCell_other _ _ _ (fun e => e1 (by rw [e]; exact h.lb)), far k hk (fun e => e1 (h.lbs k e.symm))]
  refine ⟨fun k => if k < w.heap.size then own k else 1, ⟨?_, ?_, ?_, ?_, ?_, ?_⟩, ⟨grow3.os, grow3.tape, grow3.output, by rw [setCell_size]; omega, fun k hk => by simp [hk], keep⟩⟩
  · rw [setCell_same hB3]
    simp
  · simp [hW, h.lb]
  · refine owns_keep (w := w3) ?_ fun k e => setCell_other _ _ _ (fun e1 => hW3 (by simp only [List.length_append, List.length_cons, List.length_nil, Nat.zero_add] at e; rw [e]; exact congrArg some e1.symm))
    simpa using own3
  · intro k e
    simp only [List.length_append, List.length_cons, List.length_nil, Nat.zero_add] at e
    rcases lab3 k e with e1 | e1
    · simp [owns_lt h.bs e1, h.lbs k e1]
    · simp at e1; simp; omega
  · refine owns_keep h.ls fun k e => ?_
    have hk := owns_lt h.ls e
    rw [setCell_other _ _ _ (fun e1 => owns_ne h.blk h.ls (by decide) (by rw [e, e1])), far k hk (row_apart h.ls h.bs (by decide) k e)]
  · intro k e
    simp [owns_lt h.ls e, h.lls k e]

theorem srcPair (w : World) (t : TypeId) (x0 x1 : Value) : srcRow (w.alloc (.cells #[x0, x1] t)) 2 (.slice (some ⟨w.heap.size, 0, none⟩) 1 1) 1 [x0, x1] := by
  refine ⟨rfl, .inr ⟨_, _, rfl, ?_⟩⟩
  intro j u hj
  rw [Addr.add_lit]
  rw [cell_of_row _ _ _ _ _ _ (heap_alloc_new w (.cells #[x0, x1] t))]
  simpa using hj

set_option maxRecDepth 100000 in
set_option maxHeartbeats 1600000 in
theorem step_newNo {Dev : Nat → (Nat → Nat) → Nat → World → Nat → Mod → Prop} {kd : Int → Prop} (D : DevSide Dev kd) {own : Nat → Nat} {w : World} {W N : Nat} {qs : List PairS} {o : OpV} (h : Inv Dev own w W qs N)
    (hk : o.kind = 1) (hn : (1152921504606846976 : Int) < o.num) :
    Calls Tryz.prog 15 #[.pointer (some ⟨W, 0, none⟩), o.agg] w fun e w' => e = .returned (.bool true) ∧ StepTo Dev own w W N w' := by
  have hd := fun (w : World) => D.newNo (w := w) hn
  have hr := fun (w : World) => rnew_no (w := w) hn
  go_enter Tryz.func15, Tryz.ntmps15
  go_wp2_with fail
  refine (hd _).mono ?_
  rintro e w2 ⟨rfl, g2⟩
  have hX2 := (g2.block w.heap.size (by simp) (by simp)).trans (heap_alloc_new w _)
  have z2 := blk_lt hX2
  have g02 : w.grownBy w2 none := grown_trans (World.grownBy_alloc w _ none) g2 (fun k e => by cases e)
  have c14 : w2.cell? ⟨w.heap.size, 14, none⟩ = some (.int .u64 o.num) := by simp [World.cell?, hX2]
  clear hX2
  go_wp2_with fail
  refine (hr _).mono ?_
  rintro e w3 ⟨rfl, rfl⟩
  go_wp2_with fail
  go_ret
  exact ⟨rfl, relab own w, qs, h.same D ((relab_step (fun _ => False) own w).trans (grown_stepS g02)) (fun l hl => hl.elim) (by omega), (relab_step _ own w).trans (grown_stepS g02)⟩

set_option maxRecDepth 100000 in
set_option maxHeartbeats 1600000 in
theorem step_new {Dev : Nat → (Nat → Nat) → Nat → World → Nat → Mod → Prop} {kd : Int → Prop} (D : DevSide Dev kd) {own : Nat → Nat} {w : World} {W N : Nat} {qs : List PairS} {o : OpV} (h : Inv Dev own w W qs N) (hN : N ≤ 900000)
    (hk : o.kind = 1) (hn0 : 0 ≤ o.num) (hn : ¬ (1152921504606846976 : Int) < o.num) :
    Calls Tryz.prog 15 #[.pointer (some ⟨W, 0, none⟩), o.agg] w fun e w' => e = .returned (.bool true) ∧ StepTo Dev own w W N w' := by
  obtain ⟨ls, a, hW, hnl⟩ := h.wr
  obtain ⟨L, hL3, hLb⟩ := label_bound (relab own w) (w.heap.size + 1)
  have st1 : ∀ T X, StepS T own (relab own w) w (w.alloc X) := fun T X => (relab_step T own w).trans (grown_stepS (World.grownBy_alloc w X none))
  have hd := fun (X : Obj) => D.new (own := relab own w) (w := w.alloc X) (coins := o.num) L (by omega) (fun k hk => hLb k (by simpa using hk)) hn0 hn
  obtain ⟨i0, hi0, z0, s0, b0⟩ := info_parts infoPair
  go_enter Tryz.func15, Tryz.ntmps15
  go_wp2_with fail
  refine (hd _).mono ?_
  rintro e w2 ⟨x, own2, rfl, hD2, s2, n2⟩
  have hX2 := (s2.block w.heap.size (by simp) (by simp)).trans (heap_alloc_new w _)
  have z2 := blk_lt hX2
  have c14 : w2.cell? ⟨w.heap.size, 14, none⟩ = some (.int .u64 o.num) := by simp [World.cell?, hX2]
  clear hd
  go_wp2_with fail
  have fr : ∀ k, k < w2.heap.size → own2 k ≠ L ∧ own2 k ≠ L + 1 ∧ own2 k ≠ L + 2 := by
    intro k hk
    by_cases e : k < w.heap.size + 1
    · have h1 := s2.label k (by simpa using e)
      have h2 := hLb k e
      omega
    · rcases n2 k (by simp; omega) hk with e1 | e1 <;> omega
  refine (rnew_ok (own := own2) (w := w2) L (by omega) fr (by omega)).mono ?_
  rintro e w3 ⟨bm, rfl, own3, y0, y1, x0, x1, hM3, s3, _⟩
  have s03 : StepS (fun _ => False) own own3 w w3 := ((st1 _ _).trans s2).trans s3
  have hW3 : WRep own3 w3 W (qs.map fun q => (q.x, q.bm)) ls a := hW.keepS s03 (by simp)
  have hD3 : Dev 0 own3 L w3 x (newMod o.num) := D.keep hD2 s3 (by simp) (by simp)
  have hbs := hW3.bs
  obtain ⟨u0, u1, u2, u3, uf⟩ := blk4 hW3.blk
  have zW := blk_lt hW3.blk
  have hlen := h.len
  simp only [List.length_map] at u0 hbs
  go_wp2_with (at_builtin; refine wpList_append_rows rfl (.tmp 54) (.tmp 58) 35 rfl 52 i0 _ 2 16 Tryz.underlying35 hi0 z0 s0 b0 rfl (by decide) (.slice a.ab qs.length a.cb) qs.length ((qs.map fun q => (q.x, q.bm)).flatMap pairCells) rfl ?ho (.slice (some ⟨w3.heap.size, 0, none⟩) 1 1) 1 [.pointer (some ⟨x, 0, none⟩), .pointer (some ⟨bm, 0, none⟩)] rfl ?hs ?h1 ?hb1 ?hb2 ?_)
  case ho => exact hbs.alloc _
  case hs => exact srcPair _ _ _ _
  case h1 => intro u hu; simp at hu; rcases hu with rfl | rfl <;> rfl
  case hb1 => omega
  case hb2 => omega
  intro v4 w4 own4 grow4 lab4
  obtain ⟨a4, c4, hv4⟩ := owns_form own4
  subst hv4
  have el : (qs.map fun q => (q.x, q.bm)).length = qs.length := by simp
  obtain ⟨own5, hW5, s5⟩ := bs_done (x := (x, bm)) hW3 (by rw [el]; exact grow4) (by rw [el]; exact own4) (by rw [el]; exact lab4)
  rw [el] at hW5 s5
  have hWl : some W ≠ (Value.slice a.ab qs.length a.cb).ownBlock := by have := owns_ne hW3.blk hW3.bs (by decide); rw [el] at this; exact this
  have hW4 := (grow4.block W (by simp; omega) hWl).trans ((heap_alloc_old w3 _ zW).trans hW3.blk)
  clear u0 u1 u2 u3 uf own4 grow4 lab4
  obtain ⟨u0, u1, u2, u3, uf⟩ := blk4 hW4
  have s05 : StepS (fun l => l = 1) own own5 w (w4.setCell ⟨W, 0, none⟩ (.slice a4 (qs.length + 1) c4)) := (s03.wider (fun l hl => hl.elim)).trans s5
  have D5 : StepTo Dev own w W N (w4.setCell ⟨W, 0, none⟩ (.slice a4 (qs.length + 1) c4)) := by
    have n1 : ∀ l, l = 1 → l ≠ 0 := fun l hl => by omega
    refine ⟨own5, qs ++ [⟨L, x, bm, newMod o.num⟩], ⟨⟨ls, _, by simpa using hW5, by simp; omega⟩, ?_, ?_, by simp; omega⟩, s05.wider n1⟩
    · intro q hq
      simp only [List.mem_append, List.mem_singleton] at hq
      rcases hq with hq | rfl
      · refine (h.ok q hq).keep D s05 (fun l hl => ?_) (by omega)
        have := (h.ok q hq).2.2.2
        omega
      · have k3 : ¬ (L + 3 = 1) := by omega
        have k0 : ¬ ((0 : Nat) = 1) := by omega
        refine ⟨D.mono (D.keep hD3 s5 k3 k0) (Nat.zero_le _), ⟨y0, y1, x0, x1, hM3.keepS s5 (by omega) (by omega) (by omega) (by omega)⟩, (lim_new o.num).mono (by omega), hL3⟩
    · rw [List.pairwise_append]
      refine ⟨h.apart, List.pairwise_singleton _ _, fun q hq r hr => ?_⟩
      simp only [List.mem_singleton] at hr
      subst hr
      obtain ⟨e1, e2⟩ := D.lab (h.ok q hq).1
      have := hLb q.x (by omega)
      rw [relab_old e1, e2] at this
      exact this
  clear hW4 hW5 s5 s05
  go_wp2_with fail
  go_ret
  exact ⟨rfl, D5⟩

set_option maxRecDepth 100000 in
set_option maxHeartbeats 800000 in
theorem step_none {Dev : Nat → (Nat → Nat) → Nat → World → Nat → Mod → Prop} {kd : Int → Prop} (D : DevSide Dev kd) {own : Nat → Nat} {w : World} {W N : Nat} {o : OpV} (h : Inv Dev own w W [] N) (hk : (o.kind == 1) = false) :
    Calls Tryz.prog 15 #[.pointer (some ⟨W, 0, none⟩), o.agg] w fun e w' => e = .returned (.bool true) ∧ StepTo Dev own w W N w' := by
  obtain ⟨ls, a, hW, hnl⟩ := h.wr
  obtain ⟨u0, u1, u2, u3, uf⟩ := blk4 hW.blk
  simp only [List.map_nil, List.length_nil] at u0
  have zW := blk_lt hW.blk
  go_enter Tryz.func15, Tryz.ntmps15
  go_wp2_with fail
  go_ret
  exact ⟨rfl, relab own w, [], h.same D ((relab_step (fun _ => False) own w).trans (grown_stepS (World.grownBy_alloc w _ none))) (fun l hl => hl.elim) (by omega), (relab_step _ own w).trans (grown_stepS (World.grownBy_alloc w _ none))⟩

end Go.Proofs.YtmfdhcnnhlchbaaGreat
