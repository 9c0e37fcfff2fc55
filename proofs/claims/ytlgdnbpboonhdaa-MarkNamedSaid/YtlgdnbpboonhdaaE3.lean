/- Plain facts for MarkEither, MarkTold and MarkFree: at most one owner, at least two, marks and one more. MarkEither, by its contract. -/
import Derived.Test.YtlgdnbpboonhdaaU5
import Derived.Test.YtlgdnbpboonhdaaY1
import Derived.Test.YtlgdnbpboonhdaaO7
import Derived.Test.YtlgdnbpboonhdaaX2
namespace Go.Proofs.Ytlgdnbpboonhdaa
open Go.RowKit Go.Shelf Go.Maps
set_option linter.unusedVariables false
theorem mem_owners (L x : Nat) (ms : List Nat) (y : Nat) : y ∈ ownersL L x ms ↔ y < ms.length ∧ cb L x (mAt ms y) = true := by
  unfold ownersL
  rw [mem_pickL]
  constructor
  · rintro ⟨⟨_, h1⟩, h2⟩; exact ⟨by omega, h2⟩
  · rintro ⟨h1, h2⟩; exact ⟨⟨by omega, by omega⟩, h2⟩
theorem owners_nodup (L x : Nat) (ms : List Nat) : (ownersL L x ms).Nodup := by
  unfold ownersL pickL
  exact List.Pairwise.filter _ List.nodup_range'
theorem len_le_one : ∀ (l : List Nat), l.Nodup → (∀ a ∈ l, ∀ b ∈ l, a = b) → l.length ≤ 1
  | [], _, _ => by simp
  | [a], _, _ => by simp
  | a :: b :: t, h, hall => by
    have := hall a (by simp) b (by simp)
    rw [List.nodup_cons] at h
    exact absurd (by simp [this]) h.1
theorem len_two {l : List Nat} {a b : Nat} (ha : a ∈ l) (hb : b ∈ l) (hne : a ≠ b) : 2 ≤ l.length := by
  match l, ha, hb with
  | [c], ha, hb =>
    simp at ha hb
    omega
  | c :: d :: t, _, _ => simp
theorem only_one {l : List Nat} {i : Nat} (h : l.length ≤ 1) (hi : i ∈ l) : l = [i] := by
  match l, h, hi with
  | [c], _, hi =>
    simp at hi
    rw [hi]
theorem clash_none {S L : Nat} {ms : List Nat} (hv : Valid S L ms) : clash1 ms L = none ↔ ∀ i k, i < ms.length → k < ms.length → i ≠ k → cl L (mAt ms i) (mAt ms k) = false := by
  rw [clash1_none]
  constructor
  · intro h i k hi hk hne
    rcases Nat.lt_or_ge i k with h1 | h1
    · have := h (i, k) (pairs_mem _ _ _ h1 hk)
      rw [← clP_clB hv] at this
      exact this
    · have := h (k, i) (pairs_mem _ _ _ (by omega) hi)
      rw [← clP_clB hv] at this
      rw [cl_comm]; exact this
  · rintro h ⟨i, k⟩ hp
    have hp := mem_pairsL.1 hp
    rw [← clP_clB hv]
    exact h i k (by have := hp.1; have := hp.2; simp at *; omega) (by have := hp.2; simpa using this) (by have := hp.1; simp at this; omega)
theorem clash_some {S L i k : Nat} {ms : List Nat} (hv : Valid S L ms) (h : clash1 ms L = some (i, k)) : i < k ∧ k < ms.length ∧ cl L (mAt ms i) (mAt ms k) = true := by
  unfold clash1 at h
  have h1 := List.find?_some h
  have h2 := mem_pairsL.1 (List.mem_of_find?_eq_some h)
  rw [← clP_clB hv] at h1
  exact ⟨h2.1, h2.2, h1⟩
theorem apart_one {S L : Nat} {ms : List Nat} (hv : Valid S L ms) (h : clash1 ms L = none) (x : Nat) : (ownersL L x ms).length ≤ 1 := by
  refine len_le_one _ (owners_nodup _ _ _) (fun a ha b hb => ?_)
  rw [mem_owners] at ha hb
  rcases Nat.decEq a b with hne | he
  · have h1 := (clash_none hv).1 h a b ha.1 hb.1 hne
    have h2 := (cl_of L x _ _ (mAt_lt2 hv a) (mAt_lt2 hv b) ha.2 hb.2).1
    rw [h1] at h2; cases h2
  · exact he
theorem apart_own {S L i : Nat} {ms : List Nat} (hv : Valid S L ms) (h : clash1 ms L = none) (x : Nat) (hi : i < ms.length) (hc : cb L x (mAt ms i) = true) : ownersL L x ms = [i] :=
  only_one (apart_one hv h x) ((mem_owners _ _ _ _).2 ⟨hi, hc⟩)
theorem clash_two {S L i k : Nat} {ms : List Nat} (hv : Valid S L ms) (h : clash1 ms L = some (i, k)) :
    cb L (mAt ms i &&& mAt ms k) (mAt ms i) = true ∧ cb L (mAt ms i &&& mAt ms k) (mAt ms k) = true ∧ 2 ≤ (ownersL L (mAt ms i &&& mAt ms k) ms).length ∧ clashV (clash2 ms L i k) = (((mAt ms i &&& mAt ms k : Nat) : Int), 0) := by
  obtain ⟨h1, h2, h3⟩ := clash_some hv h
  have h4 : cb L (mAt ms i &&& mAt ms k) (mAt ms i) = true ∧ cb L (mAt ms i &&& mAt ms k) (mAt ms k) = true := by
    unfold cl at h3; rw [Bool.and_eq_true] at h3; exact h3
  refine ⟨h4.1, h4.2, len_two ((mem_owners _ _ _ _).2 ⟨by omega, h4.1⟩) ((mem_owners _ _ _ _).2 ⟨h2, h4.2⟩) (by omega), ?_⟩
  rw [clash2_both hv (by omega) h2 (by omega)]
  unfold bothV
  rw [if_pos h3, if_neg (by omega)]
theorem clash_free {S L i k : Nat} {ms : List Nat} (hv : Valid S L ms) (h : clash1 ms L = none) (hi : i < ms.length) (hk : k < ms.length) (hne : i ≠ k) : clashV (clash2 ms L i k) = (0, 5) := by
  rw [clash2_both hv hi hk hne, if_pos ((bothV_neg _ _ _).2 ((clash_none hv).1 h i k hi hk hne))]
theorem mAt_append_left (ms : List Nat) (m i : Nat) (h : i < ms.length) : mAt (ms ++ [m]) i = mAt ms i := by
  unfold mAt; rw [List.getElem?_append_left h]
theorem mAt_append_right (ms : List Nat) (m : Nat) : mAt (ms ++ [m]) ms.length = m := by
  unfold mAt; simp
theorem freeTo_all (L : Int) (ms : List Nat) (m n : Nat) : freeTo L ms m n = true ↔ ∀ i, i < n → cl L m (mAt ms i) = false := by
  unfold freeTo
  rw [List.all_eq_true]
  simp only [List.mem_range, Bool.not_eq_true']
theorem valid_snoc {S L m : Nat} {ms : List Nat} (hv : Valid S L ms) (h1 : 1 ≤ m) (h2 : m ≤ full S) (hl : ms.length ≤ 11) : Valid S L (ms ++ [m]) := by
  obtain ⟨a, b, c, d, e⟩ := hv
  refine ⟨a, b, c, by simp; omega, fun x hx => ?_⟩
  rw [List.mem_append] at hx
  rcases hx with hx | hx
  · exact e x hx
  · simp at hx; subst hx; exact ⟨h1, h2⟩
theorem clash_snoc {S L m : Nat} {ms : List Nat} (hv : Valid S L ms) (h1 : 1 ≤ m) (h2 : m ≤ full S) (hl : ms.length ≤ 11) : clash1 (ms ++ [m]) L = none ↔ clash1 ms L = none ∧ freeTo L ms m ms.length = true := by
  rw [clash_none (valid_snoc hv h1 h2 hl), clash_none hv, freeTo_all]
  have hlen : (ms ++ [m]).length = ms.length + 1 := by simp
  rw [hlen]
  constructor
  · intro h
    refine ⟨fun i k hi hk hne => ?_, fun i hi => ?_⟩
    · have := h i k (by omega) (by omega) hne
      rwa [mAt_append_left _ _ _ hi, mAt_append_left _ _ _ hk] at this
    · have := h ms.length i (by omega) (by omega) (by omega)
      rwa [mAt_append_left _ _ _ hi, mAt_append_right] at this
  · rintro ⟨ha, hb⟩ i k hi hk hne
    rcases Nat.lt_or_ge i ms.length with h3 | h3
    · rw [mAt_append_left _ _ _ h3]
      rcases Nat.lt_or_ge k ms.length with h4 | h4
      · rw [mAt_append_left _ _ _ h4]; exact ha i k h3 h4 hne
      · obtain rfl : k = ms.length := by omega
        rw [mAt_append_right, cl_comm]; exact hb i h3
    · obtain rfl : i = ms.length := by omega
      rw [mAt_append_right, mAt_append_left _ _ _ (by omega)]
      exact hb k (by omega)
end Go.Proofs.Ytlgdnbpboonhdaa
namespace Go.Proofs.Ytlgdnbpboonhdaa
open Go.RowKit Go.Shelf Go.Maps
set_option linter.unusedVariables false
attribute [local go_sem] Oper.semAt_some
theorem of_and5 {A B C D E : Prop} (h : A ∧ B ∧ C ∧ D ∧ Hid E) : E := h.2.2.2.2.out
theorem canBe42_q (x m : Nat) (L : Int) (hx : x < 1024) (hm : m < 1024) (w : World) : Calls Try.prog 42 #[.int .i64 (x : Int), .int .i64 (m : Int), .int .i64 L] w fun e w' => e = .returned (.bool (cb L x m)) ∧ w' = w :=
  (canBe42_any x m L hx hm w).mono fun e w' ⟨h1, h2⟩ => ⟨h1, h2.symm⟩
theorem reads_new1 (w : World) (x : Int) (n : Nat) (hn : n = w.heap.size) : Reads (w.alloc (.cells #[.int .i64 x] 3)) (.slice (some ⟨n, 0, none⟩) 1 1) [x] := Reads.new w [x] 3 n hn (by simp) _ rfl 1 1 rfl
theorem len_nil_false {n : Nat} (h : n ≠ 0) : ((n : Int) == 0) = false := by simp; omega
set_option maxRecDepth 100000 in
set_option maxHeartbeats 4000000 in
/-- Marks that are apart. -/
theorem either8_free (S L : Nat) (a : Option Addr) (cap : Nat) (ms : List Nat) (x y : Nat) (hx : x ≤ 65535) (hy : y ≤ 255) (w : World) (hv : Valid S L ms) (hR : Reads w (.slice a (ints ms).length cap) (ints ms))
    (hf : ∀ W, Ext w W → Calls Try.prog 41 #[.agg #[.int .i64 (S : Int), .int .i64 (L : Int), .slice a (ints ms).length cap]] W fun e w' => e = .returned (.bool true) ∧ Ext W w')
    (hn0 : ms.length ≠ 0) (hcl : clash1 ms L = none) :
    Calls Try.prog 8 #[.agg #[.int .i64 (S : Int), .int .i64 (L : Int), .slice a (ints ms).length cap], .int .u16 (x : Int), .int .u8 (y : Int)] w fun e w' => e = .returned (.bool true) ∧ Ext w w' := by
  have E0 := Lib.hid ((Ext.refl w).alloc (.cells #[.int .i64 (S : Int), .int .i64 (L : Int), .slice a (ints ms).length cap] 24))
  have P0 := Lib.hid (OffAt.new w (.int .i64 (S : Int)) (.int .i64 (L : Int)) (.slice a (ints ms).length cap) 24)
  rw [ints_length] at hR hf E0 P0 ⊢
  have e6 := worn_mod x S hv.1 hv.2.1
  have hwv := worn_le x S
  have hwz := worn_nz S hv.1 hv.2.1
  have hfs := full_lt S hv.2.1
  have hn12 := hv.2.2.2.1
  have hxv : x % 2 ^ S < 1024 := by omega
  generalize x % 2 ^ S = xv at *
  obtain ⟨i, hi⟩ : ∃ i, i = y % ms.length := ⟨_, rfl⟩
  have hin : i < ms.length := by rw [hi]; exact Nat.mod_lt _ (by omega)
  have e7 : (y : Int) % (ms.length : Int) = (i : Int) := by rw [hi]; simp
  obtain ⟨k, hk⟩ : ∃ k, k = xv % ms.length := ⟨_, rfl⟩
  have hkn : k < ms.length := by rw [hk]; exact Nat.mod_lt _ (by omega)
  have e8 : (xv : Int) % (ms.length : Int) = (k : Int) := by rw [hk]; simp
  clear hi hk
  obtain ⟨m, hm⟩ := get_some hin
  have hm2 := hv.lt hm
  have hms := mAt_of hm
  have e9 := and_nat m xv (by omega) (by omega)
  have hlt : m &&& xv < 1024 := and_lt m xv hxv
  have hlf : m &&& xv ≤ full S := by
    have h1 := (hv.2.2.2.2 m (List.mem_of_getElem? hm)).2
    exact Nat.le_trans (Nat.and_le_left) h1
  have hone := apart_one hv hcl xv
  have hown := apart_own hv hcl (m &&& xv) hin
  rw [hms] at hown
  have HF := Lib.hid (hf _ E0.out)
  have h26 := fun W (h : Ext w W) => apart26_ok S L ms _ W hv (hR.ext h)
  rw [hcl] at h26
  have H26 := Lib.hid h26
  have H19 := Lib.hid (fun W (h : Ext w W) => owners19_ok S L xv ms _ W hv (hR.ext h) hwv)
  have H19b := Lib.hid (fun W (h : Ext w W) => owners19_ok S L (m &&& xv) ms _ W hv (hR.ext h) hlf)
  have h24 : ∀ W (h : Ext w W), Calls Try.prog 24 #[.agg #[.int .i64 (S : Int), .int .i64 (L : Int), .slice a ms.length cap], .int .i64 (i : Int), .int .i64 (k : Int)] W fun e w' => ∃ n, e = .returned (.tuple #[.int .i64 n, .int .i64 (if i = k then 16 else 5)]) ∧ Ext W w' := by
    intro W h
    by_cases hik : i = k
    · subst hik
      rw [if_pos rfl]
      exact (clash24_same S L i ms _ W hv (hR.ext h) hin).mono fun e w' ⟨h1, h2⟩ => ⟨_, h1, h2⟩
    · rw [if_neg hik]
      refine (clash24_ok S L i k ms _ W hv (hR.ext h) hin hkn hik).mono fun e w' ⟨h1, h2⟩ => ⟨0, by rw [h1, clash_free hv hcl hin hkn hik], h2⟩
  have H24 := Lib.hid h24
  have H42 := Lib.hid (fun W => canBe42_q (m &&& xv) m L hlt hm2 W)
  have HR := Lib.hid hR
  have HM := Lib.hid hm
  generalize ownersL L xv ms = o1 at *
  generalize ownersL L (m &&& xv) ms = o2 at *
  obtain ⟨n, hn⟩ : ∃ n, n = ms.length := ⟨_, rfl⟩
  have HN := Lib.hid hn
  obtain ⟨b0, off0, hbo, -, -⟩ := hR.atN hm
  subst hbo
  rw [← hn] at hn0 hin e7 hkn e8 HF H26 H19 H19b H24 E0 P0 HR ⊢
  have hnz := len_nil_false hn0
  have hnz2 : ¬ (n : Int) = 0 := by omega
  have hia : (0 : Int) ≤ (i : Int) := by omega
  have hib : (i : Int) < (n : Int) := by omega
  have hl1 : decide ((1 : Int) < ((ints o1).length : Int)) = false := by rw [ints_length]; simp; omega
  have HOWN := Lib.hid hown
  have hS1 := hv.1
  have hS2 := hv.2.1
  clear hf hR hv hcl hm hms h26 h24 hone hown hn hn0
  go_enter Try.func8, Try.ntmps8
  go_wp2_with fail
  refine HF.out.mono ?_
  rintro e w1 ⟨rfl, hb⟩
  obtain ⟨g1, g2, g3⟩ := P0.out.ext hb
  have HE := Lib.hid (E0.out.trans hb); clear hb
  go_wp2_with fail
  refine (H26.out _ HE.out).mono ?_
  rintro e w2 ⟨rfl, hb⟩
  obtain ⟨g1, g2, g3⟩ := OffAt.ext ⟨g1, g2, g3⟩ hb
  replace HE := Lib.hid (HE.out.trans hb); clear hb
  simp only [apart3]
  go_wp2_with fail
  refine (H19.out _ HE.out).mono ?_
  rintro e w3 ⟨u, rfl, hu, hb⟩
  obtain ⟨g1, g2, g3⟩ := OffAt.ext ⟨g1, g2, g3⟩ hb
  replace HE := Lib.hid (HE.out.trans hb); clear hb
  obtain ⟨hz, a1, cap1, rfl⟩ := hu.shape
  clear hu
  obtain ⟨b1, off1, hbo, -, hcq⟩ := (HR.out.ext HE.out).atN HM.out
  cases hbo
  go_wp2_with fail
  refine (H19b.out _ HE.out).mono ?_
  rintro e w4 ⟨u2, rfl, hu2, hb⟩
  obtain ⟨g1, g2, g3⟩ := OffAt.ext ⟨g1, g2, g3⟩ hb
  replace hcq := cell_ext hb hcq
  replace HE := Lib.hid (HE.out.trans hb); clear hb
  obtain ⟨hz2, a2, cap2, rfl⟩ := hu2.shape
  have HU := Lib.hid hu2; clear hu2
  cases hc : cb L (m &&& xv) m
  · have h42 := H42.out
    rw [hc] at h42
    have H42' := Lib.hid h42
    clear h42 hc
    go_wp2
    go_quiet ((go_at_call 42; exact Calls.quiet_of_same (H42'.out _)))
    go_wp2_with fail
    refine (H24.out _ (HE.out.drewN _ : Ext _ _)).mono ?_
    rintro e w5 ⟨n5, rfl, hb⟩
    replace HE := Lib.hid ((HE.out.drewN _ : Ext _ _).trans hb); clear hb
    by_cases hik : i = k
    · rw [if_pos hik]
      have hd1 : ((i : Int) == (k : Int)) = true := by simp [hik]
      clear hik
      go_wp2_with fail
      refine (works18 _).mono ?_
      rintro e w6 ⟨rfl, hb⟩
      replace HE := Lib.hid (HE.out.trans hb); clear hb
      go_wp2
      go_ret
      exact ⟨rfl, HE.out⟩
    · rw [if_neg hik]
      have hd1 : ((i : Int) == (k : Int)) = false := by simp; omega
      have hd2 : ((i : Int) != (k : Int)) = true := by simp; omega
      clear hik
      go_wp2_with fail
      refine (works18 _).mono ?_
      rintro e w6 ⟨rfl, hb⟩
      replace HE := Lib.hid (HE.out.trans hb); clear hb
      go_wp2
      go_ret
      exact ⟨rfl, HE.out⟩
  · have h42 := H42.out
    rw [hc] at h42
    have H42' := Lib.hid h42
    have ho := HOWN.out hc
    subst ho
    have h23 : ∀ X v', Ext w4 X → Reads X v' [(i : Int)] → Calls Try.prog 23 #[.slice a2 (ints [i]).length cap2, v'] X fun e w' => e = .returned (.bool true) ∧ Ext X w' := by
      intro X v' hX hv'
      have := ints_any _ v' (ints [i]) [(i : Int)] X (HU.out.ext hX) hv'
      rwa [show (ints [i] == [(i : Int)]) = true from by simp [ints]] at this
    have H23 := Lib.hid h23
    clear h42 hc h23
    go_wp2
    have KP : ∀ X X' : World, (X.cell? ⟨w.heap.size, 0, none⟩ = some (.int .i64 (S : Int)) ∧ X.cell? ⟨w.heap.size, 1, none⟩ = some (.int .i64 (L : Int)) ∧ X.cell? ⟨w.heap.size, 2, none⟩ = some (.slice (some ⟨b0, off0, none⟩) n cap) ∧ X.cell? ⟨b0, off0 + i, none⟩ = some (.int .i64 (m : Int)) ∧ Hid (Ext w4 X)) → Ext X X' → (X'.cell? ⟨w.heap.size, 0, none⟩ = some (.int .i64 (S : Int)) ∧ X'.cell? ⟨w.heap.size, 1, none⟩ = some (.int .i64 (L : Int)) ∧ X'.cell? ⟨w.heap.size, 2, none⟩ = some (.slice (some ⟨b0, off0, none⟩) n cap) ∧ X'.cell? ⟨b0, off0 + i, none⟩ = some (.int .i64 (m : Int)) ∧ Hid (Ext w4 X')) :=
      fun X X' h hb => ⟨cell_ext hb h.1, cell_ext hb h.2.1, cell_ext hb h.2.2.1, cell_ext hb h.2.2.2.1, Ext.trans h.2.2.2.2.out hb⟩
    have HKP := Lib.hid KP; clear KP
    go_region_held3 (fun X => X.cell? ⟨w.heap.size, 0, none⟩ = some (.int .i64 (S : Int)) ∧ X.cell? ⟨w.heap.size, 1, none⟩ = some (.int .i64 (L : Int)) ∧ X.cell? ⟨w.heap.size, 2, none⟩ = some (.slice (some ⟨b0, off0, none⟩) n cap) ∧ X.cell? ⟨b0, off0 + i, none⟩ = some (.int .i64 (m : Int)) ∧ Hid (Ext w4 X))
      (first | assumption | exact ⟨g1, g2, g3, hcq, Ext.drew (Ext.refl _)⟩ | exact HKP.out _ _ (by assumption) hb | exact HKP.out _ _ (by assumption) ((Ext.refl _).alloc _) | fail)
      (first | (go_at_call 42; refine (H42'.out _).mono ?_; rintro e w' ⟨rfl, rfl⟩)
             | (go_at_call 23; refine (H23.out _ _ (of_and5 (by assumption)) ((reads_new1 _ _ _ rfl).ext (Ext.drew (Ext.refl _)))).mono ?_; rintro e w' ⟨rfl, hb⟩)
             | fail)
    all_goals
      rename_i hk
      obtain ⟨r1, r2, r3, r4, r5⟩ := hk
      have HK := Lib.hid (HE.out.trans r5.out)
      clear r5 g1 g2 g3 hcq
      go_wp2_with fail
      refine (H24.out _ HK.out).mono ?_
      rintro e w5 ⟨n5, rfl, hb⟩
      replace HK := Lib.hid (HK.out.trans hb); clear hb
      by_cases hik : i = k
      · rw [if_pos hik]
        have hd1 : ((i : Int) == (k : Int)) = true := by simp [hik]
        clear hik
        go_wp2_with fail
        refine (works18 _).mono ?_
        rintro e w6 ⟨rfl, hb⟩
        replace HK := Lib.hid (HK.out.trans hb); clear hb
        go_wp2
        go_ret
        exact ⟨rfl, HK.out⟩
      · rw [if_neg hik]
        have hd1 : ((i : Int) == (k : Int)) = false := by simp; omega
        have hd2 : ((i : Int) != (k : Int)) = true := by simp; omega
        clear hik
        go_wp2_with fail
        refine (works18 _).mono ?_
        rintro e w6 ⟨rfl, hb⟩
        replace HK := Lib.hid (HK.out.trans hb); clear hb
        go_wp2
        go_ret
        exact ⟨rfl, HK.out⟩
end Go.Proofs.Ytlgdnbpboonhdaa
