import Derived.Test.YtmfdhcnnhlchbaaGreatC28
import Derived.Test.YtmfdhcnnhlchbaaGreatC38
import Derived.Test.YtmfdhcnnhlchbaaGreatC39
import Derived.Deep.RegionHeld3
import Derived.Test.YtmfdhcnnhlchbaaGreatC27
import Derived.Test.YtmfdhcnnhlchbaaGreatC37
import Derived.Conc.AtomicLaws
namespace Go.Proofs.YtmfdhcnnhlchbaaGreat
open Go.RowKit Go.Maps Go.Sort Go.Shelf

section
variable {lab : Nat → Nat} {l : Nat} {w : World} {x q : Nat} {pre post : List Value} {S : Ch} {K : Hd} {a : DAt} {B : Nat}

theorem size_none {D : DataW Value} (h : Maps.size D = 0) (k : Lit) : has D k = false := by
  cases D <;> simp_all [Maps.size, Maps.has]

theorem keys_plain (mb : Option Nat) (w : World) : Calls Tryz.prog 74 #[.map mb] w fun e w' => e = .returned (.func (.func 93) #[] #[.pointer (some ⟨w.heap.size, 0, none⟩)]) ∧ w' = w.alloc (.cells #[.map mb] 83) :=
  (callsIn_wide (n := 4)).1 (keys_call Fence.wide 4 trivial rfl mb w)

theorem sorted_empty {w : World} {b n : Nat} {f : Int → Option Value} (h : MapIs Tryz.prog tU64 encU w b f n) (hn : n = 0) (w1 : World) (hw1 : w1 = w.alloc (.cells #[.map (some b)] 83)) :
    Calls Tryz.prog 73 #[.func (.func 93) #[] #[.pointer (some ⟨w.heap.size, 0, none⟩)]] w1 fun e w' => e = .returned (.slice none 0 0) ∧ w1.grownBy w' none := by
  obtain ⟨D, hown, hsz, _⟩ := h
  have hD : Maps.size D = 0 := by rw [hsz, hn]
  have hbl := hown.lt
  subst hw1
  refine sorted_none (enters_of Tryz.func93 (by kernel_rfl) rfl) (N := Maps.size D) (by rw [hD]; exact Nat.zero_le _) (by rw [hD]; omega) _
    (keys_stops Fence.wide 2 trivial rfl (by omega) w.heap.size b n D _ (by simp) (by simp) ?_) ?_
  · obtain ⟨es, clock, hb, Ft, hs, hDD⟩ := hown
    exact ⟨es, clock, (Below.heap_alloc _ _ b hbl).trans hb, Ft, hs, hDD⟩
  · rintro ss ⟨_, h2⟩
    cases ss with
    | nil => rfl
    | cons y r =>
      have := (h2 y).1 (by simp)
      rw [size_none hD] at this
      cases this

set_option maxRecDepth 100000 in
set_option maxHeartbeats 1600000 in
theorem look_none (h : DevCh lab l w x pre post S K a B) (hq : pre.length = q) (hp : S.hd.packets = []) : Calls Tryz.prog 53 #[.pointer (some ⟨x, q, none⟩)] w fun e w' => e = .returned (.agg #[.int .u64 S.hd.height, .int .u64 S.hd.time, .int .u64 K.height, .bool S.hd.isOpen, .int .u64 S.nextSend, .int .u64 S.hd.nextRecv, .slice none 0 0, .int .u64 S.locked, .int .u64 S.about]) ∧ w.grownBy w' none := by
  have hxl := blk_lt h.blk
  obtain ⟨w1, hw1⟩ : ∃ w1 : World, w1 = w.alloc (.cells #[.int .u64 0, .int .u64 0, .int .u64 0, .bool false, .int .u64 0, .int .u64 0, .slice none 0 0, .int .u64 0, .int .u64 0] 112) := ⟨_, rfl⟩
  have g1 : w.grownBy w1 none := by rw [hw1]; exact World.grownBy_alloc _ _ _
  have hX1 : w1.heap[w.heap.size]? = some (.cells #[.int .u64 0, .int .u64 0, .int .u64 0, .bool false, .int .u64 0, .int .u64 0, .slice none 0 0, .int .u64 0, .int .u64 0] 112 (0, 0)) := by rw [hw1]; exact heap_alloc_new w _
  have h1 := h.grown (grown_drew g1)
  have zl : w.heap.size < w1.heap.size := blk_lt hX1
  have hne : x ≠ w.heap.size := by omega
  have hk := keys_plain (some a.bp) w1.drew
  obtain ⟨w2, hw2⟩ : ∃ w2 : World, w2 = w1.drew.alloc (.cells #[.map (some a.bp)] 83) := ⟨_, rfl⟩
  have g2 : w1.drew.grownBy w2 none := by rw [hw2]; exact World.grownBy_alloc _ _ _
  have hs := sorted_empty h1.pend (by simp [hp]) w2 hw2
  rw [← hw2] at hk
  clear hw2
  have h2 := h1.grown g2
  obtain ⟨c0, c1, c2, c3, c4, c5, c6, c7, c8, c9, c10, c11, c12, c13, c14, c15, c16, c17, c18, c19, c20, c21, cf⟩ := dch_cells h1.blk hq
  obtain ⟨d0, d1, d2, d3, d4, d5, d6, d7, d8, d9, d10, d11, d12, d13, d14, d15, d16, d17, d18, d19, d20, d21, df⟩ := dch_cells h2.blk hq
  clear c4 c5 c6 c7 c10 c13 c15 c16 c17 c18 c19 c20 c21 cf d4 d5 d6 d7 d10 d13 d15 d16 d17 d18 d19 d20 d21 df
  have hX2 := (g2.block _ zl (by simp)).trans hX1
  have zl2 := blk_lt hX2
  obtain ⟨x0, x1, x2, x3, x4, x5, x6, x7, x8, xf⟩ := blk9c hX2
  go_enter Tryz.func53, Tryz.ntmps53
  go_wp2_with fail
  rw [← hw1]
  clear hw1
  go_region_held3 (fun w' => w'.cell? ⟨x, q, none⟩ = some (.bool S.hd.isOpen) ∧ w'.cell? ⟨x, q + 1, none⟩ = some (.int .u64 S.nextSend) ∧ w'.cell? ⟨x, q + 2, none⟩ = some (.int .u64 S.hd.nextRecv) ∧ w'.cell? ⟨x, q + 3, none⟩ = some (.map (some a.bp)) ∧ w'.cell? ⟨x, q + 8, none⟩ = some (.int .u64 S.hd.height) ∧ w'.cell? ⟨x, q + 9, none⟩ = some (.int .u64 S.hd.time) ∧ w'.cell? ⟨x, q + 11, none⟩ = some (.int .u64 S.locked) ∧ w'.cell? ⟨x, q + 12, none⟩ = some (.int .u64 S.about) ∧ w'.cell? ⟨x, q + 14, none⟩ = some (.int .u64 K.height))
    (first | go_keep | (refine ⟨?_, ?_, ?_, ?_, ?_, ?_, ?_, ?_, ?_⟩ <;> (rw [cell_far hne, cell_far hne, cell_far hne, cell_far hne, cell_far hne, cell_far hne, cell_far hne, cell_far hne, cell_far hne]; assumption)))
    (first
      | (go_at_call 74; refine hk.mono ?_; rintro e w3 ⟨rfl, rfl⟩)
      | (go_at_call 73; refine hs.mono ?_; rintro e w4 ⟨rfl, g4⟩; have h4 := h2.grown g4; obtain ⟨e0, e1, e2, e3, e4, e5, e6, e7, e8, e9, e10, e11, e12, e13, e14, e15, e16, e17, e18, e19, e20, e21, ef⟩ := dch_cells h4.blk hq; have hX4 := (g4.block _ zl2 (by simp)).trans hX2; have zl4 := blk_lt hX4; obtain ⟨y0, y1, y2, y3, y4, y5, y6, y7, y8, yf⟩ := blk9c hX4))
  go_wp2_with fail
  refine bodyPost_ret (v := .agg #[.int .u64 S.hd.height, .int .u64 S.hd.time, .int .u64 K.height, .bool S.hd.isOpen, .int .u64 S.nextSend, .int .u64 S.hd.nextRecv, .slice none 0 0, .int .u64 S.locked, .int .u64 S.about]) ?_ rfl ⟨rfl, ?_⟩
  · simp [results, Tryz.results53, go_sem, *]
  · have g4' : w.grownBy w4 none := grown_trans (grown_trans (grown_drew g1) g2 (fun k e => by cases e)) g4 (fun k e => by cases e)
    exact grown_set (grown_set (grown_set (grown_set (grown_set (grown_set (grown_set (grown_set (grown_set g4' _ _ (.inr (Nat.le_refl _))) _ _ (.inr (Nat.le_refl _))) _ _ (.inr (Nat.le_refl _))) _ _ (.inr (Nat.le_refl _))) _ _ (.inr (Nat.le_refl _))) _ _ (.inr (Nat.le_refl _))) _ _ (.inr (Nat.le_refl _))) _ _ (.inr (Nat.le_refl _))) _ _ (.inr (Nat.le_refl _))

set_option maxRecDepth 100000 in
theorem lookNo {c : Int} (h0 : c ≠ 0) (h1 : c ≠ 1) :
    Calls Tryz.prog 37 #[.pointer (some ⟨x, 0, none⟩), .int .i64 c] w fun e w' => e = .returned (.tuple #[lookZero, .int .i64 1]) ∧ w.grownBy w' none := by
  have hf := fun W => findNo (w := W) (x := x) h0 h1
  go_enter Tryz.func37, Tryz.ntmps37
  go_wp2_with fail
  refine (hf _).mono ?_
  rintro e w2 ⟨rfl, rfl⟩
  go_wp2_with fail
  refine bodyPost_ret (v := .tuple #[lookZero, .int .i64 1]) ?_ rfl ⟨rfl, World.grownBy_alloc w _ none⟩
  simp [results, Tryz.results37, go_sem]

set_option maxRecDepth 100000 in
set_option maxHeartbeats 1600000 in
theorem look0_none {m : Mod} {a0 a1 : DAt} {K0 K1 : Hd} (h : Br lab w x m a0 a1 K0 K1 B) (hp : m.c0.hd.packets = []) :
    Calls Tryz.prog 37 #[.pointer (some ⟨x, 0, none⟩), .int .i64 0] w fun e w' => e = .returned (.tuple #[.agg #[.int .u64 m.c0.hd.height, .int .u64 m.c0.hd.time, .int .u64 K0.height, .bool m.c0.hd.isOpen, .int .u64 m.c0.nextSend, .int .u64 m.c0.hd.nextRecv, .slice none 0 0, .int .u64 m.c0.locked, .int .u64 m.c0.about], .int .i64 0]) ∧ w.grownBy w' none := by
  obtain ⟨w1, hw1⟩ : ∃ w1 : World, w1 = w.alloc (.cells #[.int .u64 0, .int .u64 0, .int .u64 0, .bool false, .int .u64 0, .int .u64 0, .slice none 0 0, .int .u64 0, .int .u64 0] 112) := ⟨_, rfl⟩
  have g1 : w.grownBy w1 none := by rw [hw1]; exact World.grownBy_alloc _ _ _
  have hX1 : w1.heap[w.heap.size]? = some (.cells #[.int .u64 0, .int .u64 0, .int .u64 0, .bool false, .int .u64 0, .int .u64 0, .slice none 0 0, .int .u64 0, .int .u64 0] 112 (0, 0)) := by rw [hw1]; exact heap_alloc_new w _
  have h1 := h.grown g1
  have zl : w.heap.size < w1.heap.size := blk_lt hX1
  have hlk := look_none (q := 0) h1.c0 rfl hp
  go_enter Tryz.func37, Tryz.ntmps37
  go_wp2_with fail
  rw [← hw1]
  clear hw1
  refine (find0 h1).mono ?_
  rintro e w2 ⟨rfl, rfl⟩
  go_wp2_with fail
  refine hlk.mono ?_
  rintro e w3 ⟨rfl, g3⟩
  have hX3 := (g3.block _ zl (by simp)).trans hX1
  have zl3 := blk_lt hX3
  obtain ⟨y0, y1, y2, y3, y4, y5, y6, y7, y8, yf⟩ := blk9c hX3
  go_wp2_with fail
  refine bodyPost_ret (v := .tuple #[.agg #[.int .u64 m.c0.hd.height, .int .u64 m.c0.hd.time, .int .u64 K0.height, .bool m.c0.hd.isOpen, .int .u64 m.c0.nextSend, .int .u64 m.c0.hd.nextRecv, .slice none 0 0, .int .u64 m.c0.locked, .int .u64 m.c0.about], .int .i64 0]) ?_ rfl ⟨rfl, ?_⟩
  · simp [results, Tryz.results37, go_sem, *]
  · have g4' : w.grownBy w3 none := grown_trans g1 g3 (fun k e => by cases e)
    exact grown_set (grown_set (grown_set (grown_set (grown_set (grown_set (grown_set (grown_set (grown_set g4' _ _ (.inr (Nat.le_refl _))) _ _ (.inr (Nat.le_refl _))) _ _ (.inr (Nat.le_refl _))) _ _ (.inr (Nat.le_refl _))) _ _ (.inr (Nat.le_refl _))) _ _ (.inr (Nat.le_refl _))) _ _ (.inr (Nat.le_refl _))) _ _ (.inr (Nat.le_refl _))) _ _ (.inr (Nat.le_refl _))

set_option maxRecDepth 100000 in
set_option maxHeartbeats 1600000 in
theorem look1_none {m : Mod} {a0 a1 : DAt} {K0 K1 : Hd} (h : Br lab w x m a0 a1 K0 K1 B) (hp : m.c1.hd.packets = []) :
    Calls Tryz.prog 37 #[.pointer (some ⟨x, 0, none⟩), .int .i64 1] w fun e w' => e = .returned (.tuple #[.agg #[.int .u64 m.c1.hd.height, .int .u64 m.c1.hd.time, .int .u64 K1.height, .bool m.c1.hd.isOpen, .int .u64 m.c1.nextSend, .int .u64 m.c1.hd.nextRecv, .slice none 0 0, .int .u64 m.c1.locked, .int .u64 m.c1.about], .int .i64 0]) ∧ w.grownBy w' none := by
  obtain ⟨w1, hw1⟩ : ∃ w1 : World, w1 = w.alloc (.cells #[.int .u64 0, .int .u64 0, .int .u64 0, .bool false, .int .u64 0, .int .u64 0, .slice none 0 0, .int .u64 0, .int .u64 0] 112) := ⟨_, rfl⟩
  have g1 : w.grownBy w1 none := by rw [hw1]; exact World.grownBy_alloc _ _ _
  have hX1 : w1.heap[w.heap.size]? = some (.cells #[.int .u64 0, .int .u64 0, .int .u64 0, .bool false, .int .u64 0, .int .u64 0, .slice none 0 0, .int .u64 0, .int .u64 0] 112 (0, 0)) := by rw [hw1]; exact heap_alloc_new w _
  have h1 := h.grown g1
  have zl : w.heap.size < w1.heap.size := blk_lt hX1
  have hlk := look_none (q := 22) h1.c1 rfl hp
  go_enter Tryz.func37, Tryz.ntmps37
  go_wp2_with fail
  rw [← hw1]
  clear hw1
  refine (find1 h1).mono ?_
  rintro e w2 ⟨rfl, rfl⟩
  go_wp2_with fail
  refine hlk.mono ?_
  rintro e w3 ⟨rfl, g3⟩
  have hX3 := (g3.block _ zl (by simp)).trans hX1
  have zl3 := blk_lt hX3
  obtain ⟨y0, y1, y2, y3, y4, y5, y6, y7, y8, yf⟩ := blk9c hX3
  go_wp2_with fail
  refine bodyPost_ret (v := .tuple #[.agg #[.int .u64 m.c1.hd.height, .int .u64 m.c1.hd.time, .int .u64 K1.height, .bool m.c1.hd.isOpen, .int .u64 m.c1.nextSend, .int .u64 m.c1.hd.nextRecv, .slice none 0 0, .int .u64 m.c1.locked, .int .u64 m.c1.about], .int .i64 0]) ?_ rfl ⟨rfl, ?_⟩
  · simp [results, Tryz.results37, go_sem, *]
  · have g4' : w.grownBy w3 none := grown_trans g1 g3 (fun k e => by cases e)
    exact grown_set (grown_set (grown_set (grown_set (grown_set (grown_set (grown_set (grown_set (grown_set g4' _ _ (.inr (Nat.le_refl _))) _ _ (.inr (Nat.le_refl _))) _ _ (.inr (Nat.le_refl _))) _ _ (.inr (Nat.le_refl _))) _ _ (.inr (Nat.le_refl _))) _ _ (.inr (Nat.le_refl _))) _ _ (.inr (Nat.le_refl _))) _ _ (.inr (Nat.le_refl _))) _ _ (.inr (Nat.le_refl _))

end

end Go.Proofs.YtmfdhcnnhlchbaaGreat

namespace Go.Proofs.YtmfdhcnnhlchbaaGreat
open Go.RowKit Go.Maps Go.Sort Go.Shelf

theorem mem_insertD {H : Type} {x p : Lit × DataW H} : ∀ {l : List (Lit × DataW H)}, p ∈ DataW.insert x l → p = x ∨ p ∈ l
  | [], h => by simp [DataW.insert] at h; exact .inl h
  | y :: r, h => by
    unfold DataW.insert at h
    split at h
    · simp at h
      rcases h with h | h | h
      · exact .inl h
      · exact .inr (by simp [h])
      · exact .inr (by simp [h])
    · simp at h
      rcases h with h | h
      · exact .inr (by simp [h])
      · rcases mem_insertD h with h | h
        · exact .inl h
        · exact .inr (by simp [h])

theorem mem_foldD {H : Type} {p : Lit × DataW H} : ∀ {l : List (Lit × DataW H)}, p ∈ l.foldr DataW.insert [] → p ∈ l
  | [], h => by simp at h
  | y :: r, h => by
    rw [List.foldr_cons] at h
    rcases mem_insertD h with h | h
    · simp [h]
    · exact List.mem_cons_of_mem _ (mem_foldD h)

/-- A number that a map has is a number of the kind. -/
theorem has_wf {w : World} {b n : Nat} {D : DataW Value} (h : w.ownsMap Tryz.prog tU64 heldR b n D) {x : Int} (hx : Maps.has D (.int .u64 x) = true) : keyOf Tryz.prog tU64 (encU x) = some (.int .u64 x) := by
  obtain ⟨es, clock, _, F, _, rfl⟩ := h
  unfold Maps.has at hx
  rw [List.any_eq_true] at hx
  obtain ⟨p, hp, hk⟩ := hx
  have hp2 := mem_foldD hp
  rw [List.mem_map] at hp2
  obtain ⟨en, hen, rfl⟩ := hp2
  obtain ⟨y, hy⟩ := F.reads en hen
  have e1 : Go.WideElems.rg Tryz.prog tU64 heldR en = y := by unfold Go.WideElems.rg; rw [hy]; rfl
  rw [e1] at hk
  have e2 := Go.WideElems.rd_key hy
  obtain ⟨x', ex, ey, hw⟩ := keyOf_u64 e2
  rw [ey] at hk e2
  simp [Lit.sameKey] at hk
  subst hk
  rw [ex] at e2
  exact e2

/-- slices.Sorted of an iterator that gives the members of ps. -/
theorem sorted_is {g : Nat} {lb : Array Value} (eg : ∀ args w, (callFunc g args).run Tryz.prog w = .ok (.enter g args) w) {S Sp : List Int → Prop} {N : Nat} (hN : N < 16777216) (w : World)
    (hseq : SeqStopsK Fence.wide 2 Tryz.prog g lb (fun x : Int => #[Value.int .u64 x]) KeepsWalks S Sp N w) {ps : List Int} (hS : ∀ ss, S ss → ss.Nodup ∧ ∀ x, x ∈ ss ↔ x ∈ ps) (hps : ps.Pairwise (· < ·)) (hlp : ps.length < 16777216) :
    Calls Tryz.prog 73 #[.func (.func g) #[] lb] w fun e w' => ∃ al cl, e = .returned (.slice al ps.length cl) ∧ w'.ownsRow w.heap.size tU64 1 (.slice al ps.length cl) ps.length (ps.map (Value.int .u64)) ∧ (al = none → cl = 0) ∧ w.grownBy w' none := by
  have hc : Calls Tryz.prog 91 #[.func (.func g) #[] lb] w fun e w' => ∃ v ss, e = .returned v ∧ S ss ∧ w'.ownsRow w.heap.size tU64 1 v ss.length (ss.map (Value.int .u64)) ∧ w.grownBy w' none := by
    refine (callsIn_wide (n := 4)).1 ((collect_in Fence.wide 4 trivial trivial rfl (by omega) trivial eg (N := N) (by unfold maxLen; omega) (by omega) w hseq).mono ?_)
    rintro e w' ⟨v, ss, rfl, h1, hrow, hnil, hb⟩
    exact ⟨v, ss, rfl, h1, hrow, below_grown hb⟩
  go_enter Tryz.func73, Tryz.ntmps73
  go_wp2_with fail
  refine hc.mono ?_
  rintro e w1 ⟨v, ss, rfl, hSs, hrow, g1⟩
  obtain ⟨hnd, hmem⟩ := hS ss hSs
  have hperm : ss.Perm ps := (List.perm_ext_iff_of_nodup hnd (hps.imp (fun h e => by omega))).2 hmem
  have hlen := hperm.length_eq
  rcases hrow.2 with ⟨rfl, h0⟩ | ⟨g', cap, cur, rfl, hb, hg, h1, h2, h3, h4⟩
  · have hp0 : ps = [] := by cases ps; rfl; simp at hlen; omega
    subst hp0
    go_wp2_with fail
    refine (sort_nil w1).mono ?_
    rintro e w2 ⟨rfl, rfl⟩
    go_wp2_with fail
    go_ret
    exact ⟨none, 0, rfl, World.ownsRow_nil _ _ _ _, fun _ => rfl, g1⟩
  · obtain ⟨_, r1, r2, r3, r4⟩ := row_of hrow
    have hso := sort_is (cap := cap) (n := ss.length) (by simp) r4 (by omega)
    have HL : Hid ((pdq ltInt ss.toArray 0 ss.length (bitsLen ss.length) true true).toList = ps) := pdq_list (m := bitsLen ss.length) hnd hmem hps
    obtain ⟨R, hR⟩ : ∃ R, R = pdq ltInt ss.toArray 0 ss.length (bitsLen ss.length) true true := ⟨_, rfl⟩
    rw [← hR] at hso HL
    clear hR
    obtain ⟨q, hq⟩ : ∃ q, q = ss.length := ⟨_, rfl⟩
    rw [← hq] at hso hlen ⊢
    have HQ : Hid (q = ps.length) := hlen
    have HR : Hid (R.size = q) := by
      show R.size = q
      rw [hlen, ← HL.out]; simp
    clear hlen hq hperm hmem hnd hrow hg h1 h2 h3 h4 r4 r2 hSs hc hseq
    go_wp2_with fail
    refine hso.mono ?_
    rintro e w2 ⟨rfl, hw2⟩
    have HW : Hid (Put w1 g' 0 cap R w2) := hw2
    clear hw2
    go_wp2_with fail
    go_ret
    refine ⟨some ⟨g', 0, none⟩, cap, by rw [HQ.out]; rfl, ?_, (fun h => by cases h), grown_trans g1 HW.out.by_ (fun k e => .inr (by cases e; exact hb))⟩
    have := row_to HW.out.row r1 r3
    rw [HR.out, HL.out, HQ.out] at this
    exact this

theorem sorted_pend {w : World} {b : Nat} {l : List Pk} {B : Nat} (h : MapIs Tryz.prog tU64 encU w b (pkF l) l.length) (hsq : l.Pairwise (fun p r => p.seq < r.seq)) (hpos : ∀ p ∈ l, 1 ≤ p.seq ∧ p.seq ≤ B) (hB : B < 16777216) (hl : l.length ≤ B) (w1 : World) (hw1 : w1 = w.alloc (.cells #[.map (some b)] 83)) :
    Calls Tryz.prog 73 #[.func (.func 93) #[] #[.pointer (some ⟨w.heap.size, 0, none⟩)]] w1 fun e w' => ∃ al cl, e = .returned (.slice al l.length cl) ∧ w'.ownsRow w1.heap.size tU64 1 (.slice al l.length cl) l.length (l.map fun p => .int .u64 p.seq) ∧ (al = none → cl = 0) ∧ w1.grownBy w' none := by
  obtain ⟨D, hown, hsz, hsay⟩ := h
  have hbl := hown.lt
  subst hw1
  have hown' : (w.alloc (.cells #[.map (some b)] 83)).ownsMap Tryz.prog tU64 heldR b l.length D := by
    obtain ⟨es, clock, hb, Ft, hs, hDD⟩ := hown
    exact ⟨es, clock, (Below.heap_alloc _ _ b hbl).trans hb, Ft, hs, hDD⟩
  have := sorted_is (enters_of Tryz.func93 (by kernel_rfl) rfl) (N := Maps.size D) (by omega) _
    (keys_stops Fence.wide 2 trivial rfl (by omega) w.heap.size b l.length D _ (by simp) (by simp) hown') (ps := l.map Pk.seq) ?_ (List.pairwise_map.2 hsq) (by simp; omega)
  · simpa [List.map_map, Function.comp_def] using this
  · rintro ss ⟨h1, h2⟩
    refine ⟨h1, fun x => (h2 x).trans ⟨fun hx => ?_, fun hx => ?_⟩⟩
    · have hk := has_wf hown hx
      have := (hsay x _ hk).1
      rw [hx] at this
      unfold pkF at this
      rw [Option.isSome_map] at this
      have := List.find?_isSome.1 this.symm
      obtain ⟨p, hp, e⟩ := this
      simp at e
      exact List.mem_map.2 ⟨p, hp, e⟩
    · obtain ⟨p, hp, rfl⟩ := List.mem_map.1 hx
      have hk : keyOf Tryz.prog tU64 (encU p.seq) = some (.int .u64 p.seq) := keyU (by have := hpos p hp; omega) (by have := hpos p hp; omega)
      rw [(hsay p.seq _ hk).1]
      unfold pkF
      rw [Option.isSome_map]
      exact List.find?_isSome.2 ⟨p, hp, by simp⟩

end Go.Proofs.YtmfdhcnnhlchbaaGreat

namespace Go.Proofs.YtmfdhcnnhlchbaaGreat
open Go.RowKit Go.Maps Go.Sort Go.Shelf

/-- What Look hands back of a chain: the list of pending numbers lies in memory of its own. -/
def LookPost (S : Ch) (K : Hd) (w : World) (e : Ending) (w' : World) : Prop :=
  ∃ al cl, e = .returned (.agg #[.int .u64 S.hd.height, .int .u64 S.hd.time, .int .u64 K.height, .bool S.hd.isOpen, .int .u64 S.nextSend, .int .u64 S.hd.nextRecv, .slice al S.hd.packets.length cl, .int .u64 S.locked, .int .u64 S.about]) ∧
    w'.ownsRow 0 tU64 1 (.slice al S.hd.packets.length cl) S.hd.packets.length (S.hd.packets.map fun p => .int .u64 p.seq) ∧ (al = none → cl = 0) ∧ (∀ k, (Value.slice al S.hd.packets.length cl).ownBlock = some k → w.heap.size ≤ k) ∧ w.grownBy w' none

theorem LookPost.mk {S : Ch} {K : Hd} {w : World} {e : Ending} {w' : World} {al : Option Addr} {cl : Nat} (h1 : e = .returned (.agg #[.int .u64 S.hd.height, .int .u64 S.hd.time, .int .u64 K.height, .bool S.hd.isOpen, .int .u64 S.nextSend, .int .u64 S.hd.nextRecv, .slice al S.hd.packets.length cl, .int .u64 S.locked, .int .u64 S.about]))
    (h2 : w'.ownsRow 0 tU64 1 (.slice al S.hd.packets.length cl) S.hd.packets.length (S.hd.packets.map fun p => .int .u64 p.seq)) (h3 : al = none → cl = 0) (h4 : ∀ k, (Value.slice al S.hd.packets.length cl).ownBlock = some k → w.heap.size ≤ k) (h5 : w.grownBy w' none) : LookPost S K w e w' := ⟨al, cl, h1, h2, h3, h4, h5⟩

section
variable {lab : Nat → Nat} {l : Nat} {w : World} {x q : Nat} {pre post : List Value} {S : Ch} {K : Hd} {a : DAt} {B : Nat}

set_option maxRecDepth 100000 in
set_option maxHeartbeats 1600000 in
theorem look_any (h : DevCh lab l w x pre post S K a B) (hq : pre.length = q) (hB : B < 16777216) : Calls Tryz.prog 53 #[.pointer (some ⟨x, q, none⟩)] w fun e w' => LookPost S K w e w' := by
  have hxl := blk_lt h.blk
  obtain ⟨w1, hw1⟩ : ∃ w1 : World, w1 = w.alloc (.cells #[.int .u64 0, .int .u64 0, .int .u64 0, .bool false, .int .u64 0, .int .u64 0, .slice none 0 0, .int .u64 0, .int .u64 0] 112) := ⟨_, rfl⟩
  have g1 : w.grownBy w1 none := by rw [hw1]; exact World.grownBy_alloc _ _ _
  have hX1 : w1.heap[w.heap.size]? = some (.cells #[.int .u64 0, .int .u64 0, .int .u64 0, .bool false, .int .u64 0, .int .u64 0, .slice none 0 0, .int .u64 0, .int .u64 0] 112 (0, 0)) := by rw [hw1]; exact heap_alloc_new w _
  have h1 := h.grown (grown_drew g1)
  have zl : w.heap.size < w1.heap.size := blk_lt hX1
  have hne : x ≠ w.heap.size := by omega
  have hk := keys_plain (some a.bp) w1.drew
  obtain ⟨w2, hw2⟩ : ∃ w2 : World, w2 = w1.drew.alloc (.cells #[.map (some a.bp)] 83) := ⟨_, rfl⟩
  have g2 : w1.drew.grownBy w2 none := by rw [hw2]; exact World.grownBy_alloc _ _ _
  have hs := sorted_pend h1.pend h.good.hd.seqs h.good.hd.pos hB h.good.hd.lp w2 hw2
  rw [← hw2] at hk
  clear hw2
  have h2 := h1.grown g2
  obtain ⟨c0, c1, c2, c3, c4, c5, c6, c7, c8, c9, c10, c11, c12, c13, c14, c15, c16, c17, c18, c19, c20, c21, cf⟩ := dch_cells h1.blk hq
  obtain ⟨d0, d1, d2, d3, d4, d5, d6, d7, d8, d9, d10, d11, d12, d13, d14, d15, d16, d17, d18, d19, d20, d21, df⟩ := dch_cells h2.blk hq
  clear c4 c5 c6 c7 c10 c13 c15 c16 c17 c18 c19 c20 c21 cf d4 d5 d6 d7 d10 d13 d15 d16 d17 d18 d19 d20 d21 df
  have hX2 := (g2.block _ zl (by simp)).trans hX1
  have zl2 := blk_lt hX2
  obtain ⟨x0, x1, x2, x3, x4, x5, x6, x7, x8, xf⟩ := blk9c hX2
  go_enter Tryz.func53, Tryz.ntmps53
  go_wp2_with fail
  rw [← hw1]
  clear hw1
  go_region_held3 (fun w' => w'.cell? ⟨x, q, none⟩ = some (.bool S.hd.isOpen) ∧ w'.cell? ⟨x, q + 1, none⟩ = some (.int .u64 S.nextSend) ∧ w'.cell? ⟨x, q + 2, none⟩ = some (.int .u64 S.hd.nextRecv) ∧ w'.cell? ⟨x, q + 3, none⟩ = some (.map (some a.bp)) ∧ w'.cell? ⟨x, q + 8, none⟩ = some (.int .u64 S.hd.height) ∧ w'.cell? ⟨x, q + 9, none⟩ = some (.int .u64 S.hd.time) ∧ w'.cell? ⟨x, q + 11, none⟩ = some (.int .u64 S.locked) ∧ w'.cell? ⟨x, q + 12, none⟩ = some (.int .u64 S.about) ∧ w'.cell? ⟨x, q + 14, none⟩ = some (.int .u64 K.height))
    (first | go_keep | (refine ⟨?_, ?_, ?_, ?_, ?_, ?_, ?_, ?_, ?_⟩ <;> (rw [cell_far hne, cell_far hne, cell_far hne, cell_far hne, cell_far hne, cell_far hne, cell_far hne, cell_far hne, cell_far hne]; assumption)))
    (first
      | (go_at_call 74; refine hk.mono ?_; rintro e w3 ⟨rfl, rfl⟩)
      | (go_at_call 73; refine hs.mono ?_; rintro e w4 ⟨al, cl, rfl, hrow, hnil, g4⟩; have h4 := h2.grown g4; obtain ⟨e0, e1, e2, e3, e4, e5, e6, e7, e8, e9, e10, e11, e12, e13, e14, e15, e16, e17, e18, e19, e20, e21, ef⟩ := dch_cells h4.blk hq; have hX4 := (g4.block _ zl2 (by simp)).trans hX2; have zl4 := blk_lt hX4; obtain ⟨y0, y1, y2, y3, y4, y5, y6, y7, y8, yf⟩ := blk9c hX4))
  go_wp2_with fail
  refine bodyPost_ret (v := .agg #[.int .u64 S.hd.height, .int .u64 S.hd.time, .int .u64 K.height, .bool S.hd.isOpen, .int .u64 S.nextSend, .int .u64 S.hd.nextRecv, .slice al S.hd.packets.length cl, .int .u64 S.locked, .int .u64 S.about]) ?_ rfl (LookPost.mk rfl ?_ hnil ?_ ?_)
  · simp [results, Tryz.results53, go_sem, *]
  · refine owns_keep (owns_base hrow) (fun k hk => ?_)
    have hk1 := (hrow.lt k hk).1
    have hk2 : k ≠ w.heap.size := by omega
    rw [setCell_other _ _ _ hk2, setCell_other _ _ _ hk2, setCell_other _ _ _ hk2, setCell_other _ _ _ hk2, setCell_other _ _ _ hk2, setCell_other _ _ _ hk2, setCell_other _ _ _ hk2, setCell_other _ _ _ hk2, setCell_other _ _ _ hk2]
  · intro k hk
    have hk1 := (hrow.lt k hk).1
    omega
  · have g4' : w.grownBy w4 none := grown_trans (grown_trans (grown_drew g1) g2 (fun k e => by cases e)) g4 (fun k e => by cases e)
    exact grown_set (grown_set (grown_set (grown_set (grown_set (grown_set (grown_set (grown_set (grown_set g4' _ _ (.inr (Nat.le_refl _))) _ _ (.inr (Nat.le_refl _))) _ _ (.inr (Nat.le_refl _))) _ _ (.inr (Nat.le_refl _))) _ _ (.inr (Nat.le_refl _))) _ _ (.inr (Nat.le_refl _))) _ _ (.inr (Nat.le_refl _))) _ _ (.inr (Nat.le_refl _))) _ _ (.inr (Nat.le_refl _))


end

end Go.Proofs.YtmfdhcnnhlchbaaGreat

namespace Go.Proofs.YtmfdhcnnhlchbaaGreat
open Go.RowKit Go.Maps Go.Sort Go.Shelf

def LookPost2 (S : Ch) (K : Hd) (w : World) (e : Ending) (w' : World) : Prop :=
  ∃ al cl, e = .returned (.tuple #[.agg #[.int .u64 S.hd.height, .int .u64 S.hd.time, .int .u64 K.height, .bool S.hd.isOpen, .int .u64 S.nextSend, .int .u64 S.hd.nextRecv, .slice al S.hd.packets.length cl, .int .u64 S.locked, .int .u64 S.about], .int .i64 0]) ∧
    w'.ownsRow 0 tU64 1 (.slice al S.hd.packets.length cl) S.hd.packets.length (S.hd.packets.map fun p => .int .u64 p.seq) ∧ (al = none → cl = 0) ∧ (∀ k, (Value.slice al S.hd.packets.length cl).ownBlock = some k → w.heap.size ≤ k) ∧ w.grownBy w' none

theorem LookPost2.mk {S : Ch} {K : Hd} {w : World} {e : Ending} {w' : World} {al : Option Addr} {cl : Nat} (h1 : e = .returned (.tuple #[.agg #[.int .u64 S.hd.height, .int .u64 S.hd.time, .int .u64 K.height, .bool S.hd.isOpen, .int .u64 S.nextSend, .int .u64 S.hd.nextRecv, .slice al S.hd.packets.length cl, .int .u64 S.locked, .int .u64 S.about], .int .i64 0]))
    (h2 : w'.ownsRow 0 tU64 1 (.slice al S.hd.packets.length cl) S.hd.packets.length (S.hd.packets.map fun p => .int .u64 p.seq)) (h3 : al = none → cl = 0) (h4 : ∀ k, (Value.slice al S.hd.packets.length cl).ownBlock = some k → w.heap.size ≤ k) (h5 : w.grownBy w' none) : LookPost2 S K w e w' := ⟨al, cl, h1, h2, h3, h4, h5⟩

section
variable {lab : Nat → Nat} {w : World} {x : Nat} {B : Nat}

set_option maxRecDepth 100000 in
set_option maxHeartbeats 1600000 in
theorem look0_any {m : Mod} {a0 a1 : DAt} {K0 K1 : Hd} (h : Br lab w x m a0 a1 K0 K1 B) (hB : B < 16777216) :
    Calls Tryz.prog 37 #[.pointer (some ⟨x, 0, none⟩), .int .i64 0] w fun e w' => LookPost2 m.c0 K0 w e w' := by
  obtain ⟨w1, hw1⟩ : ∃ w1 : World, w1 = w.alloc (.cells #[.int .u64 0, .int .u64 0, .int .u64 0, .bool false, .int .u64 0, .int .u64 0, .slice none 0 0, .int .u64 0, .int .u64 0] 112) := ⟨_, rfl⟩
  have g1 : w.grownBy w1 none := by rw [hw1]; exact World.grownBy_alloc _ _ _
  have hX1 : w1.heap[w.heap.size]? = some (.cells #[.int .u64 0, .int .u64 0, .int .u64 0, .bool false, .int .u64 0, .int .u64 0, .slice none 0 0, .int .u64 0, .int .u64 0] 112 (0, 0)) := by rw [hw1]; exact heap_alloc_new w _
  have h1 := h.grown g1
  have zl : w.heap.size < w1.heap.size := blk_lt hX1
  have hlk := look_any (q := 0) h1.c0 rfl hB
  go_enter Tryz.func37, Tryz.ntmps37
  go_wp2_with fail
  rw [← hw1]
  clear hw1
  refine (find0 h1).mono ?_
  rintro e w2 ⟨rfl, rfl⟩
  go_wp2_with fail
  refine hlk.mono ?_
  rintro e w3 ⟨al, cl, rfl, hrow, hnil, hbig, g3⟩
  have hX3 := (g3.block _ zl (by simp)).trans hX1
  have zl3 := blk_lt hX3
  obtain ⟨y0, y1, y2, y3, y4, y5, y6, y7, y8, yf⟩ := blk9c hX3
  go_wp2_with fail
  refine bodyPost_ret (v := .tuple #[.agg #[.int .u64 m.c0.hd.height, .int .u64 m.c0.hd.time, .int .u64 K0.height, .bool m.c0.hd.isOpen, .int .u64 m.c0.nextSend, .int .u64 m.c0.hd.nextRecv, .slice al m.c0.hd.packets.length cl, .int .u64 m.c0.locked, .int .u64 m.c0.about], .int .i64 0]) ?_ rfl (LookPost2.mk rfl ?_ hnil ?_ ?_)
  · simp [results, Tryz.results37, go_sem, *]
  · refine owns_keep hrow (fun k hk => ?_)
    have hk1 := hbig k hk
    have hk2 : k ≠ w.heap.size := by omega
    rw [setCell_other _ _ _ hk2, setCell_other _ _ _ hk2, setCell_other _ _ _ hk2, setCell_other _ _ _ hk2, setCell_other _ _ _ hk2, setCell_other _ _ _ hk2, setCell_other _ _ _ hk2, setCell_other _ _ _ hk2, setCell_other _ _ _ hk2]
  · intro k hk
    have hk1 := hbig k hk
    omega
  · have g4' : w.grownBy w3 none := grown_trans g1 g3 (fun k e => by cases e)
    exact grown_set (grown_set (grown_set (grown_set (grown_set (grown_set (grown_set (grown_set (grown_set g4' _ _ (.inr (Nat.le_refl _))) _ _ (.inr (Nat.le_refl _))) _ _ (.inr (Nat.le_refl _))) _ _ (.inr (Nat.le_refl _))) _ _ (.inr (Nat.le_refl _))) _ _ (.inr (Nat.le_refl _))) _ _ (.inr (Nat.le_refl _))) _ _ (.inr (Nat.le_refl _))) _ _ (.inr (Nat.le_refl _))

set_option maxRecDepth 100000 in
set_option maxHeartbeats 1600000 in
theorem look1_any {m : Mod} {a0 a1 : DAt} {K0 K1 : Hd} (h : Br lab w x m a0 a1 K0 K1 B) (hB : B < 16777216) :
    Calls Tryz.prog 37 #[.pointer (some ⟨x, 0, none⟩), .int .i64 1] w fun e w' => LookPost2 m.c1 K1 w e w' := by
  obtain ⟨w1, hw1⟩ : ∃ w1 : World, w1 = w.alloc (.cells #[.int .u64 0, .int .u64 0, .int .u64 0, .bool false, .int .u64 0, .int .u64 0, .slice none 0 0, .int .u64 0, .int .u64 0] 112) := ⟨_, rfl⟩
  have g1 : w.grownBy w1 none := by rw [hw1]; exact World.grownBy_alloc _ _ _
  have hX1 : w1.heap[w.heap.size]? = some (.cells #[.int .u64 0, .int .u64 0, .int .u64 0, .bool false, .int .u64 0, .int .u64 0, .slice none 0 0, .int .u64 0, .int .u64 0] 112 (0, 0)) := by rw [hw1]; exact heap_alloc_new w _
  have h1 := h.grown g1
  have zl : w.heap.size < w1.heap.size := blk_lt hX1
  have hlk := look_any (q := 22) h1.c1 rfl hB
  go_enter Tryz.func37, Tryz.ntmps37
  go_wp2_with fail
  rw [← hw1]
  clear hw1
  refine (find1 h1).mono ?_
  rintro e w2 ⟨rfl, rfl⟩
  go_wp2_with fail
  refine hlk.mono ?_
  rintro e w3 ⟨al, cl, rfl, hrow, hnil, hbig, g3⟩
  have hX3 := (g3.block _ zl (by simp)).trans hX1
  have zl3 := blk_lt hX3
  obtain ⟨y0, y1, y2, y3, y4, y5, y6, y7, y8, yf⟩ := blk9c hX3
  go_wp2_with fail
  refine bodyPost_ret (v := .tuple #[.agg #[.int .u64 m.c1.hd.height, .int .u64 m.c1.hd.time, .int .u64 K1.height, .bool m.c1.hd.isOpen, .int .u64 m.c1.nextSend, .int .u64 m.c1.hd.nextRecv, .slice al m.c1.hd.packets.length cl, .int .u64 m.c1.locked, .int .u64 m.c1.about], .int .i64 0]) ?_ rfl (LookPost2.mk rfl ?_ hnil ?_ ?_)
  · simp [results, Tryz.results37, go_sem, *]
  · refine owns_keep hrow (fun k hk => ?_)
    have hk1 := hbig k hk
    have hk2 : k ≠ w.heap.size := by omega
    rw [setCell_other _ _ _ hk2, setCell_other _ _ _ hk2, setCell_other _ _ _ hk2, setCell_other _ _ _ hk2, setCell_other _ _ _ hk2, setCell_other _ _ _ hk2, setCell_other _ _ _ hk2, setCell_other _ _ _ hk2, setCell_other _ _ _ hk2]
  · intro k hk
    have hk1 := hbig k hk
    omega
  · have g4' : w.grownBy w3 none := grown_trans g1 g3 (fun k e => by cases e)
    exact grown_set (grown_set (grown_set (grown_set (grown_set (grown_set (grown_set (grown_set (grown_set g4' _ _ (.inr (Nat.le_refl _))) _ _ (.inr (Nat.le_refl _))) _ _ (.inr (Nat.le_refl _))) _ _ (.inr (Nat.le_refl _))) _ _ (.inr (Nat.le_refl _))) _ _ (.inr (Nat.le_refl _))) _ _ (.inr (Nat.le_refl _))) _ _ (.inr (Nat.le_refl _))) _ _ (.inr (Nat.le_refl _))

end

end Go.Proofs.YtmfdhcnnhlchbaaGreat

namespace Go.Proofs.YtmfdhcnnhlchbaaGreat
open Go.RowKit Go.Maps

theorem run_load {w : World} {x j : Nat} {t : Int} (c : w.cell? ⟨x, j, none⟩ = some (.int .i64 t)) :
    Sem.run Tryz.prog (callFunc 54 #[.pointer (some ⟨x, j, none⟩)]) w = .ok (.value (.int .i64 t)) w := by
  have hb : Tryz.f54.body.isNone = true := by kernel_rfl
  have hn : (Tryz.f54.name == "runtime.NumGoroutine") = false := by kernel_rfl
  have hx : Extern.findNext Tryz.f54 = none := by kernel_rfl
  have he : Extern.find Tryz.f54 = some (Extern.Atomic.loadT (.int .i64)) := by kernel_rfl
  have hr : (Extern.Atomic.loadT (.int .i64) #[.pointer (some ⟨x, j, none⟩)]).run Tryz.prog w = .ok (.int .i64 t) w := by
    change Sem.run Tryz.prog (do Extern.Atomic.read (.int .i64) (← asAddr (.pointer (some ⟨x, j, none⟩)))) w = _
    simp [Extern.Atomic.read, asAddr, c]
  unfold callFunc
  simp [Tryz.func54, hx, he, hr, Result.andThen]
  rw [if_neg (by simpa using hn), if_pos (by simpa using hb)]

set_option maxRecDepth 100000 in
theorem load_any {w : World} {x j : Nat} {t : Int} (c : w.cell? ⟨x, j, none⟩ = some (.int .i64 t)) :
    Calls Tryz.prog 42 #[.pointer (some ⟨x, j, none⟩)] w fun e w' => e = .returned (.int .i64 t) ∧ w' = w := by
  have hr := run_load c
  go_enter Tryz.func42, Tryz.ntmps42
  go_wp2_with fail
  go_ret
  exact ⟨rfl, rfl⟩

theorem br_cell44 {lab : Nat → Nat} {w : World} {x : Nat} {m : Mod} {a0 a1 : DAt} {K0 K1 : Hd} {B : Nat} (h : Br lab w x m a0 a1 K0 K1 B) : w.cell? ⟨x, 44, none⟩ = some (.int .i64 m.taken) := by
  have hb := h.c1.blk
  simp [World.cell?, hb, dchCells]

set_option maxRecDepth 100000 in
theorem taken_any {lab : Nat → Nat} {w : World} {x : Nat} {m : Mod} {a0 a1 : DAt} {K0 K1 : Hd} {B : Nat} (h : Br lab w x m a0 a1 K0 K1 B) :
    Calls Tryz.prog 29 #[.pointer (some ⟨x, 0, none⟩)] w fun e w' => e = .returned (.int .i64 m.taken) ∧ w' = w := by
  have hl := load_any (br_cell44 h)
  go_enter Tryz.func29, Tryz.ntmps29
  go_wp2_with fail
  refine hl.mono ?_
  rintro e w1 ⟨rfl, rfl⟩
  go_wp2_with fail
  go_ret
  exact ⟨rfl, rfl⟩

end Go.Proofs.YtmfdhcnnhlchbaaGreat
