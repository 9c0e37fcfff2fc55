/- Apart and Clash, by their contracts. -/
import Derived.Test.YtlgdnbpboonhdaaA1
namespace Go.Proofs.Ytlgdnbpboonhdaa
open Go.RowKit Go.Shelf Go.Maps
set_option linter.unusedVariables false
theorem mem_rowTo {i k : Nat} {p : Nat × Nat} : p ∈ rowTo i k ↔ p.1 = i ∧ i < p.2 ∧ p.2 < k := by
  unfold rowTo
  simp only [List.mem_map, List.mem_range'_1]
  constructor
  · rintro ⟨j, hj, rfl⟩; simp; omega
  · rintro ⟨rfl, h1, h2⟩; exact ⟨p.2, by omega, rfl⟩
theorem mem_pairsL {n : Nat} {p : Nat × Nat} : p ∈ pairsL n ↔ p.1 < p.2 ∧ p.2 < n := by
  unfold pairsL rowsTo
  simp only [List.mem_flatMap, List.mem_range, mem_rowTo]
  constructor
  · rintro ⟨j, hj, rfl, h1, h2⟩; omega
  · rintro ⟨h1, h2⟩; exact ⟨p.1, by omega, rfl, h1, h2⟩
theorem pairs_sorted (n : Nat) (h : n ≤ 12) : (pairsL n).Pairwise (fun p q => lexO p q < 0) := by
  have : ∀ n, n < 13 → (pairsL n).Pairwise (fun p q => lexO p q < 0) := by decide +kernel
  exact this n (by omega)
/-- The first two owners whose marks clash. -/
def clash1 (ms : List Nat) (L : Nat) : Option (Nat × Nat) := (pairsL ms.length).find? (clB ms L)
theorem clF_some (ms : List Nat) (L : Nat) (p : Nat × Nat) : (clF ms L (pairsL ms.length) p).isSome = true ↔ p ∈ pairsL ms.length ∧ clB ms L p = true := by
  unfold clF; split <;> simp_all
theorem clash1_best (ms : List Nat) (L : Nat) (hn : ms.length ≤ 12) (ys : List (Nat × Nat)) (found : Bool) (p : Nat × Nat) (ha : AllOf (clF ms L (pairsL ms.length)) ys) (hb : BestIs ys found p) :
    clash1 ms L = (if found = true then some p else none) ∧ (found = false → p = (0, 0)) := by
  have hall : ∀ q, q ∈ ys ↔ q ∈ pairsL ms.length ∧ clB ms L q = true := fun q => by
    rw [ha.2 q, clF_some]
    constructor
    · exact fun h => h.2
    · exact fun h => ⟨by have := mem_pairsL.1 h.1; omega, h⟩
  rcases hb with ⟨rfl, rfl, rfl⟩ | ⟨rfl, hp, hmin⟩
  · refine ⟨?_, fun _ => rfl⟩
    simp only [Bool.false_eq_true, if_false]
    refine List.find?_eq_none.2 fun q hq hc => ?_
    have := (hall q).2 ⟨hq, hc⟩
    simp at this
  · refine ⟨?_, fun h => by cases h⟩
    simp only [if_true]
    obtain ⟨hp1, hp2⟩ := (hall p).1 hp
    obtain ⟨xs, bs, hs⟩ := List.append_of_mem hp1
    refine List.find?_eq_some_iff_append.2 ⟨hp2, xs, bs, hs, fun x hx => ?_⟩
    have hsort := pairs_sorted ms.length hn
    rw [hs] at hsort
    have h1 := (List.pairwise_append.1 hsort).2.2 x hx p (by simp)
    cases hc : clB ms L x with
    | false => rfl
    | true =>
      have h2 := hmin x ((hall x).2 ⟨by rw [hs]; simp [hx], hc⟩)
      omega
def apart3 : Option (Nat × Nat) → Int × Int × Int
  | none => (0, 0, 0)
  | some p => (p.1, p.2, 17)
set_option maxRecDepth 100000 in
set_option maxHeartbeats 4000000 in
theorem apart26_ok (S L : Nat) (ms : List Nat) (v : Value) (w : World) (hv : Valid S L ms) (hr : Reads w v (ints ms)) :
    Calls Try.prog 26 #[.agg #[.int .i64 (S : Int), .int .i64 (L : Int), v]] w fun e w' => e = .returned (.tuple #[.int .i64 (apart3 (clash1 ms L)).1, .int .i64 (apart3 (clash1 ms L)).2.1, .int .i64 (apart3 (clash1 ms L)).2.2]) ∧ Ext w w' := by
  obtain ⟨hl, a, cap, rfl⟩ := hr.shape
  have E0 := Lib.hid ((Ext.refl w).alloc (.cells #[.int .i64 (S : Int), .int .i64 (L : Int), .slice a (ints ms).length cap] 24))
  have HO := Lib.hid (open_ok S L ms _ (.slice none 0 0) [] _ hv (hr.ext E0.out) (Reads.nil _) rfl)
  have HR := Lib.hid hr; have HV := Lib.hid hv
  clear hr hv
  go_enter Try.func26, Try.ntmps26
  go_wp2_with fail
  refine HO.out.mono ?_
  rintro e w' ⟨b, bt, rfl, _, _, _, ho, _, _, hb⟩
  have HB := Lib.hid (E0.out.trans hb); have HOO := Lib.hid ho
  clear hb ho
  go_wp2_with fail
  refine (clashing62 b S L ms _ _ HV.out ⟨HOO.out, HR.out.ext HB.out⟩).mono ?_
  rintro e w2 ⟨B, rfl, hB, hmap, hb2⟩
  have HB2 := Lib.hid (HB.out.trans hb2); have HM := Lib.hid hmap; clear hb2 hmap
  go_wp2_with fail
  refine (keys66 (some B) w2).mono ?_
  rintro e w3 ⟨rfl, rfl⟩
  have hm1 := (Boxed.new w2 73 (.map (some B))).cell
  have hext : Ext w2 (w2.alloc (.cells #[.map (some B)] 73)) := (Ext.refl _).alloc _
  go_wp2_with fail
  refine (first65 w2.heap.size B 200 _ _ hm1 (HM.out.ext hext)).mono ?_
  rintro e w4 ⟨ys, found, p, hall, hbest, rfl, hb4⟩
  have HB4 := Lib.hid ((HB2.out.trans hext).trans hb4)
  obtain ⟨hc1, hc2⟩ := clash1_best ms L HV.out.2.2.2.1 ys found p hall hbest
  clear hm1 hext hb4 hall hbest
  obtain ⟨i, k⟩ := p
  have HC1 := Lib.hid hc1; have HC2 := Lib.hid hc2
  clear hc1 hc2
  dsimp only [kv]
  cases found with
  | false =>
    go_wp2
    refine bodyPost_ret (results_tmp3 rfl _ _ _) rfl ?_
    rw [HC1.out]
    exact ⟨rfl, Ext.alloc HB4.out _⟩
  | true =>
    have hmix : Try.prog.follows .mixedOrders = true := by kernel_rfl
    go_wp2
    go_region
    all_goals
      go_wp2
      refine bodyPost_ret (results_tmp3 rfl _ _ _) rfl ?_
      rw [HC1.out]
      exact ⟨rfl, (Ext.alloc HB4.out _).drew⟩
theorem apart26_err (S L : Int) (xs : List Int) (v : Value) (w : World) (hr : Reads w v xs) (hc : chk S L xs ≠ 0) :
    Calls Try.prog 26 #[.agg #[.int .i64 S, .int .i64 L, v]] w fun e w' => e = .returned (.tuple #[.int .i64 0, .int .i64 0, .int .i64 (chk S L xs)]) ∧ Ext w w' := by
  obtain ⟨hl, a, cap, rfl⟩ := hr.shape
  have E0 := Lib.hid ((Ext.refl w).alloc (.cells #[.int .i64 S, .int .i64 L, .slice a xs.length cap] 24))
  have H := Lib.hid (open_err S L xs _ (.slice none 0 0) _ (hr.ext E0.out) hc)
  clear hr
  obtain ⟨c, hc'⟩ : ∃ c, c = chk S L xs := ⟨_, rfl⟩
  rw [← hc'] at hc H ⊢
  have hd : (c != 0) = true := by simpa using hc
  clear hc hc'
  go_enter Try.func26, Try.ntmps26
  go_wp2_with fail
  refine H.out.mono ?_
  rintro e w' ⟨rfl, hb⟩
  have HB := Lib.hid (E0.out.trans hb); clear hb
  go_wp2
  refine bodyPost_ret (results_tmp3 rfl _ _ _) rfl ?_
  exact ⟨rfl, HB.out⟩
def clash2 (ms : List Nat) (L i k : Nat) : Option Nat := clF ms L (pairsL ms.length) (min i k, max i k)
def clashV : Option Nat → Int × Int
  | none => (0, 5)
  | some s => (s, 0)
set_option maxRecDepth 100000 in
set_option maxHeartbeats 4000000 in
theorem clash24_ok (S L i k : Nat) (ms : List Nat) (v : Value) (w : World) (hv : Valid S L ms) (hr : Reads w v (ints ms)) (hi : i < ms.length) (hk : k < ms.length) (hne : i ≠ k) :
    Calls Try.prog 24 #[.agg #[.int .i64 (S : Int), .int .i64 (L : Int), v], .int .i64 (i : Int), .int .i64 (k : Int)] w fun e w' => e = .returned (.tuple #[.int .i64 (clashV (clash2 ms L i k)).1, .int .i64 (clashV (clash2 ms L i k)).2]) ∧ Ext w w' := by
  obtain ⟨hl, a, cap, rfl⟩ := hr.shape
  have hn := hv.2.2.2.1
  have E0 := Lib.hid (((Ext.refl w).alloc (.cells #[.int .i64 (S : Int), .int .i64 (L : Int), .slice a (ints ms).length cap] 24)).alloc (.cells #[.int .i64 (i : Int), .int .i64 (k : Int)] 3))
  have HO := Lib.hid (open_ok S L ms _ (.slice (some ⟨(w.alloc (.cells #[.int .i64 (S : Int), .int .i64 (L : Int), .slice a (ints ms).length cap] 24)).heap.size, 0, none⟩) 2 2) [(i : Int), (k : Int)] _ hv (hr.ext E0.out) (Reads.new (w.alloc (.cells #[.int .i64 (S : Int), .int .i64 (L : Int), .slice a (ints ms).length cap] 24)) _ 3 _ rfl (by simp) _ rfl 2 2 rfl) (by simp [inR]; omega))
  rw [World.size_alloc] at HO
  have HR := Lib.hid hr; have HV := Lib.hid hv
  have hik : (i : Int) ≠ (k : Int) := by omega
  have hd : ((i : Int) == (k : Int)) = false := by simpa using hik
  clear hr hv
  go_enter Try.func24, Try.ntmps24
  go_wp2_with fail
  refine HO.out.mono ?_
  rintro e w' ⟨b, bt, rfl, _, _, _, ho, _, _, hb⟩
  have HB := Lib.hid (E0.out.trans hb); have HOO := Lib.hid ho
  clear hb ho
  go_wp2_with fail
  refine (clashing62 b S L ms _ _ HV.out ⟨HOO.out, HR.out.ext HB.out⟩).mono ?_
  rintro e w2 ⟨B, rfl, hB, hmap, hb2⟩
  have HB2 := Lib.hid (HB.out.trans hb2)
  have hmin : ∃ p q : Nat, (min i k, max i k) = (p, q) ∧ p < q ∧ q < ms.length ∧ ((p = i ∧ q = k) ∨ (p = k ∧ q = i)) := by
    rcases Nat.lt_or_gt_of_ne hne with h | h
    · exact ⟨i, k, by rw [Nat.min_eq_left (by omega), Nat.max_eq_right (by omega)], h, hk, .inl ⟨rfl, rfl⟩⟩
    · exact ⟨k, i, by rw [Nat.min_eq_right (by omega), Nat.max_eq_left (by omega)], h, hi, .inr ⟨rfl, rfl⟩⟩
  obtain ⟨p, q, hpq, hlt, hql, hcase⟩ := hmin
  have HCL : Hid (clash2 ms L i k = clF ms L (pairsL ms.length) (p, q)) := Lib.hid (by unfold clash2; rw [hpq])
  obtain ⟨c, hrun, hc⟩ := hmap.look (p, q) ⟨by simp; omega, by simp; omega⟩
  obtain ⟨o, ho⟩ : ∃ o, o = clF ms L (pairsL ms.length) (p, q) := ⟨_, rfl⟩
  rw [← ho] at hrun hc HCL
  have HC := Lib.hid hc
  dsimp only [kv] at hrun
  clear hb2 hmap hc hpq ho
  cases o with
  | none =>
    rcases hcase with ⟨rfl, rfl⟩ | ⟨rfl, rfl⟩
    all_goals
      go_wp2
      all_goals first
        | (exfalso; omega)
        | (go_ret2; rw [HCL.out]; exact ⟨rfl, HB2.out⟩)
  | some s =>
    obtain rfl := HC.out s rfl
    rcases hcase with ⟨rfl, rfl⟩ | ⟨rfl, rfl⟩
    all_goals
      go_wp2
      all_goals first
        | (exfalso; omega)
        | (go_ret2; rw [HCL.out]; exact ⟨rfl, HB2.out⟩)
theorem clash24_same (S L i : Nat) (ms : List Nat) (v : Value) (w : World) (hv : Valid S L ms) (hr : Reads w v (ints ms)) (hi : i < ms.length) :
    Calls Try.prog 24 #[.agg #[.int .i64 (S : Int), .int .i64 (L : Int), v], .int .i64 (i : Int), .int .i64 (i : Int)] w fun e w' => e = .returned (.tuple #[.int .i64 0, .int .i64 16]) ∧ Ext w w' := by
  obtain ⟨hl, a, cap, rfl⟩ := hr.shape
  have E0 := Lib.hid (((Ext.refl w).alloc (.cells #[.int .i64 (S : Int), .int .i64 (L : Int), .slice a (ints ms).length cap] 24)).alloc (.cells #[.int .i64 (i : Int), .int .i64 (i : Int)] 3))
  have HO := Lib.hid (open_ok S L ms _ (.slice (some ⟨(w.alloc (.cells #[.int .i64 (S : Int), .int .i64 (L : Int), .slice a (ints ms).length cap] 24)).heap.size, 0, none⟩) 2 2) [(i : Int), (i : Int)] _ hv (hr.ext E0.out) (Reads.new (w.alloc (.cells #[.int .i64 (S : Int), .int .i64 (L : Int), .slice a (ints ms).length cap] 24)) _ 3 _ rfl (by simp) _ rfl 2 2 rfl) (by simp [inR]; omega))
  rw [World.size_alloc] at HO
  clear hr hv
  go_enter Try.func24, Try.ntmps24
  go_wp2_with fail
  refine HO.out.mono ?_
  rintro e w' ⟨b, bt, rfl, _, _, _, ho, _, _, hb⟩
  have HB := Lib.hid (E0.out.trans hb)
  clear hb ho
  go_wp2
  go_ret2
  exact ⟨rfl, HB.out⟩
theorem clash24_arg (S L : Nat) (i k : Int) (ms : List Nat) (v : Value) (w : World) (hv : Valid S L ms) (hr : Reads w v (ints ms)) (hi : inR 0 ((ms.length : Int) - 1) [i, k] = false) :
    Calls Try.prog 24 #[.agg #[.int .i64 (S : Int), .int .i64 (L : Int), v], .int .i64 i, .int .i64 k] w fun e w' => e = .returned (.tuple #[.int .i64 0, .int .i64 2]) ∧ Ext w w' := by
  obtain ⟨hl, a, cap, rfl⟩ := hr.shape
  have E0 := Lib.hid (((Ext.refl w).alloc (.cells #[.int .i64 (S : Int), .int .i64 (L : Int), .slice a (ints ms).length cap] 24)).alloc (.cells #[.int .i64 i, .int .i64 k] 3))
  have HO := Lib.hid (open_arg S L ms _ (.slice (some ⟨(w.alloc (.cells #[.int .i64 (S : Int), .int .i64 (L : Int), .slice a (ints ms).length cap] 24)).heap.size, 0, none⟩) 2 2) [i, k] _ hv (hr.ext E0.out) (Reads.new (w.alloc (.cells #[.int .i64 (S : Int), .int .i64 (L : Int), .slice a (ints ms).length cap] 24)) _ 3 _ rfl (by simp) _ rfl 2 2 rfl) hi)
  rw [World.size_alloc] at HO
  clear hr hv
  go_enter Try.func24, Try.ntmps24
  go_wp2_with fail
  refine HO.out.mono ?_
  rintro e w' ⟨rfl, hb⟩
  have HB := Lib.hid (E0.out.trans hb)
  clear hb
  go_wp2
  go_ret2
  exact ⟨rfl, HB.out⟩
theorem clash24_err (S L i k : Int) (xs : List Int) (v : Value) (w : World) (hr : Reads w v xs) (hc : chk S L xs ≠ 0) :
    Calls Try.prog 24 #[.agg #[.int .i64 S, .int .i64 L, v], .int .i64 i, .int .i64 k] w fun e w' => e = .returned (.tuple #[.int .i64 0, .int .i64 (chk S L xs)]) ∧ Ext w w' := by
  obtain ⟨hl, a, cap, rfl⟩ := hr.shape
  have E0 := Lib.hid (((Ext.refl w).alloc (.cells #[.int .i64 S, .int .i64 L, .slice a xs.length cap] 24)).alloc (.cells #[.int .i64 i, .int .i64 k] 3))
  have H := Lib.hid (open_err S L xs _ (.slice (some ⟨w.heap.size + 1, 0, none⟩) 2 2) _ (hr.ext E0.out) hc)
  clear hr
  obtain ⟨c, hc'⟩ : ∃ c, c = chk S L xs := ⟨_, rfl⟩
  rw [← hc'] at hc H ⊢
  have hd : (c != 0) = true := by simpa using hc
  clear hc hc'
  go_enter Try.func24, Try.ntmps24
  go_wp2_with fail
  refine H.out.mono ?_
  rintro e w' ⟨rfl, hb⟩
  have HB := Lib.hid (E0.out.trans hb); clear hb
  go_wp2
  go_ret2
  exact ⟨rfl, HB.out⟩
end Go.Proofs.Ytlgdnbpboonhdaa
