import Derived.Test.YtmfdhcnnhlchbaaC27
import Derived.Test.YtmfdhcnnhlchbaaC03
import Derived.Test.YtmfdhcnnhlchbaaC18
namespace Go.Proofs.Ytmfdhcnnhlchbaa
open Go.RowKit Go.Maps Go.Sort Go.Shelf

set_option maxRecDepth 100000 in
set_option maxHeartbeats 1000000 in
/-- slices.Sort. -/
theorem sort_is {w : World} {g o N cap n : Nat} {d : Array Int} (hn : d.size = n) (h : RowAt w g o N d) (hs : n < 16777216) :
    Calls Try.prog 40 #[.slice (some ⟨g, o, none⟩) n cap] w fun e w' => e = .returned (.tuple #[]) ∧ Put w g o N (pdq ltInt d 0 n (bitsLen n) true true) w' := by
  have uu : IntKind.u64.wrap (n : Int) = n := by rw [IntKind.wrap_u64]; omega
  have hl := len_is n hs w
  have hb : bitsLen n < 1099511627776 := by
    have : bitsLen n ≤ n := by
      rcases Nat.eq_zero_or_pos n with e | e
      · subst e; decide
      · have h2 := two_pow_bitsLen_le (n := n) (by omega)
        have : bitsLen n < 2 ^ bitsLen n := Nat.lt_two_pow_self
        rcases Nat.lt_or_ge n (bitsLen n) with e3 | e3
        · have e4 : 2 ^ (n + 1) ≤ 2 ^ bitsLen n := Nat.pow_le_pow_right (by omega) (by omega)
          have e5 : n < 2 ^ n := Nat.lt_two_pow_self
          rw [Nat.pow_succ] at e4
          omega
        · exact e3
    omega
  have hp := pdq_is (n + 1) w g o N cap 0 n (bitsLen n) n d (by omega) hn h (by omega) (by omega) hs hb (.inl rfl)
  generalize bitsLen n = m at hl hp hb
  clear h
  go_enter Try.func40, Try.ntmps40
  go_wp2_with fail
  refine hl.mono ?_
  rintro e w1 ⟨rfl, rfl⟩
  go_wp2_with fail
  refine hp.mono ?_
  rintro e w2 ⟨rfl, hw2⟩
  go_wp2_with fail
  go_end0
  exact ⟨rfl, hw2⟩

/-- The sorted numbers are the ones that ascend and have the same members. -/
theorem pdq_list {ss ps : List Int} {m : Nat} (hnd : ss.Nodup) (hmem : ∀ x, x ∈ ss ↔ x ∈ ps) (hps : ps.Pairwise (· < ·)) : (pdq ltInt ss.toArray 0 ss.length m true true).toList = ps := by
  obtain ⟨hP, hSo⟩ := pdq_sorts ltInt swo_int ss.toArray 0 ss.length m true true (by omega) (by simp) (.inl rfl)
  have hpd : ps.Nodup := hps.imp (fun h e => by omega)
  have hperm : ps.Perm ss := (List.perm_ext_iff_of_nodup hpd hnd).2 (fun x => (hmem x).symm)
  have hanti : ∀ x y : Int, ltInt x y = false → ltInt y x = false → x = y := fun x y h1 h2 => by simp only [ltInt, decide_eq_false_iff_not] at h1 h2; omega
  have e1 := sorted_unique_holds swo_int hanti ss.toArray _ (by simpa using hP) (by simpa using hSo)
  have hsz : ps.length = ss.length := hperm.length_eq
  have e2 := sorted_unique_holds swo_int hanti ss.toArray ps.toArray (by
    refine ⟨by simpa using hsz, fun i hi => ?_, ?_⟩
    · rcases hi with hi | hi
      · omega
      · have h1 : ss.length ≤ i := by simpa using hi
        rw [getElem!_neg _ _ (by simp; omega), getElem!_neg _ _ (by simp; omega)]
    · have e3 : (ps.toArray.extract 0 ss.toArray.size) = ps.toArray := by
        have : ss.toArray.size = ps.toArray.size := by simp [hsz]
        rw [this]; exact Array.extract_size
      rw [e3, Array.extract_size]
      exact hperm) (by
    intro i j _ hij hj
    have hj' : j < ps.length := by simp at hj; omega
    rw [getElem!_pos ps.toArray j (by simpa using hj'), getElem!_pos ps.toArray i (by simp; omega)]
    have := List.pairwise_iff_getElem.1 hps i j (by omega) hj' hij
    simp [ltInt]
    omega)
  rw [e1, ← e2]

theorem below_grown2 {w w' : World} (h : Below w.heap.size w w') : w.grownBy w' none := ⟨h.os, h.tape, h.output, h.size, fun k hk _ => h.block k hk⟩

theorem row_of {w : World} {base g n cap : Nat} {ss : List Int} (h : w.ownsRow base tU64 1 (.slice (some ⟨g, 0, none⟩) n cap) ss.length (ss.map (Value.int .u64))) : n = ss.length ∧ base ≤ g ∧ n ≤ cap ∧ cap ≤ maxLen ∧ RowAt w g 0 cap ss.toArray := by
  rcases h.2 with ⟨h, _⟩ | ⟨g', cap', cur, e, hb, hg, h1, h2, h3, h4⟩
  · cases h
  · cases e
    refine ⟨rfl, hb, h1, h2, cur, hg, by simpa using h3, by simpa using h1, fun j hj => ?_⟩
    have hj' : j < ss.length := by simpa using hj
    have := congrArg (fun l => l[j]?) h4
    simp only [Nat.mul_one, List.getElem?_take, if_pos hj', List.getElem?_map] at this
    rw [Nat.zero_add, ← Array.getElem?_toList, this, getElem!_pos ss.toArray j hj]
    simp [List.getElem?_eq_getElem hj']

theorem row_to {w : World} {base g cap : Nat} {d : Array Int} (h : RowAt w g 0 cap d) (hb : base ≤ g) (hm : cap ≤ maxLen) : w.ownsRow base tU64 1 (.slice (some ⟨g, 0, none⟩) d.size cap) d.size (d.toList.map (Value.int .u64)) := by
  obtain ⟨cur, h1, h2, h3, h4⟩ := h
  refine ⟨by simp, .inr ⟨g, cap, cur, rfl, hb, h1, by omega, hm, by omega, ?_⟩⟩
  apply List.ext_getElem?
  intro j
  simp only [Nat.mul_one, List.getElem?_take, List.getElem?_map]
  by_cases hj : j < d.size
  · rw [if_pos hj]
    have := h4 j hj
    rw [Nat.zero_add] at this
    rw [Array.getElem?_toList, this, getElem!_pos d j hj]
    simp [hj]
  · rw [if_neg hj, List.getElem?_eq_none (by simp; omega)]
    rfl

end Go.Proofs.Ytmfdhcnnhlchbaa

namespace Go.Proofs.Ytmfdhcnnhlchbaa
open Go.RowKit Go.Maps Go.Sort Go.Shelf

theorem mem_insertD {H : Type} {x p : Lit × DataW H} : ∀ {l : List (Lit × DataW H)}, p ∈ DataW.insert x l → p = x ∨ p ∈ l
  | [], h => by simp [DataW.insert] at h; exact .inl h
  | y :: r, h => by
    unfold DataW.insert at h
    split at h
    · simp at h
      rcases h with h | h | h
      · exact .inl h
      · exact .inr (by simp [h])
      · exact .inr (by simp [h])
    · simp at h
      rcases h with h | h
      · exact .inr (by simp [h])
      · rcases mem_insertD h with h | h
        · exact .inl h
        · exact .inr (by simp [h])

theorem mem_foldD {H : Type} {p : Lit × DataW H} : ∀ {l : List (Lit × DataW H)}, p ∈ l.foldr DataW.insert [] → p ∈ l
  | [], h => by simp at h
  | y :: r, h => by
    rw [List.foldr_cons] at h
    rcases mem_insertD h with h | h
    · simp [h]
    · exact List.mem_cons_of_mem _ (mem_foldD h)

/-- A number that a map has is a number of the kind. -/
theorem has_wf {w : World} {b n : Nat} {D : DataW Value} (h : w.ownsMap Try.prog tU64 heldR b n D) {x : Int} (hx : Maps.has D (.int .u64 x) = true) : keyOf Try.prog tU64 (encU x) = some (.int .u64 x) := by
  obtain ⟨es, clock, _, F, _, rfl⟩ := h
  unfold Maps.has at hx
  rw [List.any_eq_true] at hx
  obtain ⟨p, hp, hk⟩ := hx
  have hp2 := mem_foldD hp
  rw [List.mem_map] at hp2
  obtain ⟨en, hen, rfl⟩ := hp2
  obtain ⟨y, hy⟩ := F.reads en hen
  have e1 : Go.WideElems.rg Try.prog tU64 heldR en = y := by unfold Go.WideElems.rg; rw [hy]; rfl
  rw [e1] at hk
  have e2 := Go.WideElems.rd_key hy
  obtain ⟨x', ex, ey, hw⟩ := keyOf_u64 e2
  rw [ey] at hk e2
  simp [Lit.sameKey] at hk
  subst hk
  rw [ex] at e2
  exact e2

/-- slices.Sorted of an iterator that gives the members of ps. -/
theorem sorted_is {g : Nat} {lb : Array Value} (eg : ∀ args w, (callFunc g args).run Try.prog w = .ok (.enter g args) w) {S Sp : List Int → Prop} {N : Nat} (hN : N < 16777216) (w : World)
    (hseq : SeqStopsK Fence.wide 2 Try.prog g lb (fun x : Int => #[Value.int .u64 x]) KeepsWalks S Sp N w) {ps : List Int} (hS : ∀ ss, S ss → ss.Nodup ∧ ∀ x, x ∈ ss ↔ x ∈ ps) (hps : ps.Pairwise (· < ·)) (hlp : ps.length < 16777216) :
    Calls Try.prog 25 #[.func (.func g) #[] lb] w fun e w' => ∃ al cl, e = .returned (.slice al ps.length cl) ∧ w'.ownsRow w.heap.size tU64 1 (.slice al ps.length cl) ps.length (ps.map (Value.int .u64)) ∧ (al = none → cl = 0) ∧ w.grownBy w' none := by
  have hc : Calls Try.prog 39 #[.func (.func g) #[] lb] w fun e w' => ∃ v ss, e = .returned v ∧ S ss ∧ w'.ownsRow w.heap.size tU64 1 v ss.length (ss.map (Value.int .u64)) ∧ w.grownBy w' none := by
    refine (callsIn_wide (n := 4)).1 ((collect_in Fence.wide 4 trivial trivial rfl (by omega) trivial eg (N := N) (by unfold maxLen; omega) (by omega) w hseq).mono ?_)
    rintro e w' ⟨v, ss, rfl, h1, hrow, hnil, hb⟩
    exact ⟨v, ss, rfl, h1, hrow, below_grown hb⟩
  go_enter Try.func25, Try.ntmps25
  go_wp2_with fail
  refine hc.mono ?_
  rintro e w1 ⟨v, ss, rfl, hSs, hrow, g1⟩
  obtain ⟨hnd, hmem⟩ := hS ss hSs
  have hperm : ss.Perm ps := (List.perm_ext_iff_of_nodup hnd (hps.imp (fun h e => by omega))).2 hmem
  have hlen := hperm.length_eq
  rcases hrow.2 with ⟨rfl, h0⟩ | ⟨g', cap, cur, rfl, hb, hg, h1, h2, h3, h4⟩
  · have hp0 : ps = [] := by cases ps; rfl; simp at hlen; omega
    subst hp0
    go_wp2_with fail
    refine (sort_nil w1).mono ?_
    rintro e w2 ⟨rfl, rfl⟩
    go_wp2_with fail
    go_ret
    exact ⟨none, 0, rfl, World.ownsRow_nil _ _ _ _, fun _ => rfl, g1⟩
  · obtain ⟨_, r1, r2, r3, r4⟩ := row_of hrow
    have hso := sort_is (cap := cap) (n := ss.length) (by simp) r4 (by omega)
    have HL : Hid ((pdq ltInt ss.toArray 0 ss.length (bitsLen ss.length) true true).toList = ps) := pdq_list (m := bitsLen ss.length) hnd hmem hps
    obtain ⟨R, hR⟩ : ∃ R, R = pdq ltInt ss.toArray 0 ss.length (bitsLen ss.length) true true := ⟨_, rfl⟩
    rw [← hR] at hso HL
    clear hR
    obtain ⟨q, hq⟩ : ∃ q, q = ss.length := ⟨_, rfl⟩
    rw [← hq] at hso hlen ⊢
    have HQ : Hid (q = ps.length) := hlen
    have HR : Hid (R.size = q) := by
      show R.size = q
      rw [hlen, ← HL.out]; simp
    clear hlen hq hperm hmem hnd hrow hg h1 h2 h3 h4 r4 r2 hSs hc hseq
    go_wp2_with fail
    refine hso.mono ?_
    rintro e w2 ⟨rfl, hw2⟩
    have HW : Hid (Put w1 g' 0 cap R w2) := hw2
    clear hw2
    go_wp2_with fail
    go_ret
    refine ⟨some ⟨g', 0, none⟩, cap, by rw [HQ.out]; rfl, ?_, (fun h => by cases h), grown_trans g1 HW.out.by_ (fun k e => .inr (by cases e; exact hb))⟩
    have := row_to HW.out.row r1 r3
    rw [HR.out, HL.out, HQ.out] at this
    exact this

theorem sorted_pend {w : World} {b : Nat} {l : List Pk} {B : Nat} (h : MapIs Try.prog tU64 encU w b (pkF l) l.length) (hsq : l.Pairwise (fun p r => p.seq < r.seq)) (hpos : ∀ p ∈ l, 1 ≤ p.seq ∧ p.seq ≤ B) (hB : B < 16777216) (hl : l.length ≤ B) (w1 : World) (hw1 : w1 = w.alloc (.cells #[.map (some b)] 64)) :
    Calls Try.prog 25 #[.func (.func 41) #[] #[.pointer (some ⟨w.heap.size, 0, none⟩)]] w1 fun e w' => ∃ al cl, e = .returned (.slice al l.length cl) ∧ w'.ownsRow w1.heap.size tU64 1 (.slice al l.length cl) l.length (l.map fun p => .int .u64 p.seq) ∧ (al = none → cl = 0) ∧ w1.grownBy w' none := by
  obtain ⟨D, hown, hsz, hsay⟩ := h
  have hbl := hown.lt
  subst hw1
  have hown' : (w.alloc (.cells #[.map (some b)] 64)).ownsMap Try.prog tU64 heldR b l.length D := by
    obtain ⟨es, clock, hb, Ft, hs, hDD⟩ := hown
    exact ⟨es, clock, (Below.heap_alloc _ _ b hbl).trans hb, Ft, hs, hDD⟩
  have := sorted_is (enters_of Try.func41 (by kernel_rfl) rfl) (N := Maps.size D) (by omega) _
    (keys_stops Fence.wide 2 trivial rfl (by omega) w.heap.size b l.length D _ (by simp) (by simp) hown') (ps := l.map Pk.seq) ?_ (List.pairwise_map.2 hsq) (by simp; omega)
  · simpa [List.map_map, Function.comp_def] using this
  · rintro ss ⟨h1, h2⟩
    refine ⟨h1, fun x => (h2 x).trans ⟨fun hx => ?_, fun hx => ?_⟩⟩
    · have hk := has_wf hown hx
      have := (hsay x _ hk).1
      rw [hx] at this
      unfold pkF at this
      rw [Option.isSome_map] at this
      have := List.find?_isSome.1 this.symm
      obtain ⟨p, hp, e⟩ := this
      simp at e
      exact List.mem_map.2 ⟨p, hp, e⟩
    · obtain ⟨p, hp, rfl⟩ := List.mem_map.1 hx
      have hk : keyOf Try.prog tU64 (encU p.seq) = some (.int .u64 p.seq) := keyU (by have := hpos p hp; omega) (by have := hpos p hp; omega)
      rw [(hsay p.seq _ hk).1]
      unfold pkF
      rw [Option.isSome_map]
      exact List.find?_isSome.2 ⟨p, hp, by simp⟩

end Go.Proofs.Ytmfdhcnnhlchbaa
