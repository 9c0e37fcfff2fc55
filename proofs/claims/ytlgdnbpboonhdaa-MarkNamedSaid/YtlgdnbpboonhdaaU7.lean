/- The reference's Tells. Plain facts: the order of sets of strokes, and the first one of some sets. The reference's Keep. -/
import Derived.Test.YtlgdnbpboonhdaaU1
import Derived.Test.YtlgdnbpboonhdaaW4
namespace Go.Proofs.Ytlgdnbpboonhdaa
open Go.RowKit
set_option linter.unusedVariables false
def othTo (ms : List Nat) (i x k : Nat) : Bool := (List.range k).all fun k => k == i || !sub x (mAt ms k)
theorem othTo_succ (ms : List Nat) (i x k : Nat) : othTo ms i x (k + 1) = (othTo ms i x k && (k == i || !sub x (mAt ms k))) := by
  simp [othTo, List.range_succ]
theorem othTo_false (ms : List Nat) (i x k n : Nat) (h : k < n) (hne : k ≠ i) (hc : sub x (mAt ms k) = true) : othTo ms i x n = false := by
  rw [Bool.eq_false_iff]
  intro ha
  unfold othTo at ha
  rw [List.all_eq_true] at ha
  have := ha k (List.mem_range.2 h)
  rw [hc] at this
  simp [hne] at this
def tellsB (ms : List Nat) (i x : Nat) : Bool := sub x (mAt ms i) && othB ms i x
set_option maxRecDepth 100000 in
set_option maxHeartbeats 2000000 in
theorem tells46 (S L i x : Nat) (ms : List Nat) (v : Value) (w : World) (hv : Valid S L ms) (hr : Reads w v (ints ms)) (hi : i < ms.length) (hx : x < 1024) :
    Calls Try.prog 46 #[.agg #[.int .i64 (S : Int), .int .i64 (L : Int), v], .int .i64 (i : Int), .int .i64 (x : Int)] w fun e w' => e = .returned (.bool (tellsB ms i x)) ∧ Ext w w' := by
  obtain ⟨hl, a, cap, rfl⟩ := hr.shape
  rw [ints_length] at hr hl ⊢
  have e0 := (Ext.refl w).alloc (.cells #[.int .i64 (S : Int), .int .i64 (L : Int), .slice a ms.length cap] 24)
  have E0 := Lib.hid e0
  have P0 := Lib.hid (OffAt.new w (.int .i64 (S : Int)) (.int .i64 (L : Int)) (.slice a ms.length cap) 24)
  have HR := Lib.hid (hr.ext e0); clear hr e0
  have HV := Lib.hid hv; clear hv
  obtain ⟨g1, g2, g3⟩ := P0.out
  obtain ⟨q, hq⟩ := get_some hi
  have hq2 := HV.out.lt hq
  obtain ⟨b, off, rfl, -, hcq⟩ := HR.out.atN hq
  have hia : (0 : Int) ≤ (i : Int) := by omega
  have hib : (i : Int) < (ms.length : Int) := by omega
  have h87 := fun W => within87_any x q hx hq2 W
  unfold tellsB
  rw [mAt_of hq]
  have HQ := Lib.hid hq; clear hq
  cases hs : sub x q
  · rw [hs] at h87
    have H87 := Lib.hid h87; clear h87 hs
    go_enter Try.func46, Try.ntmps46
    go_wp2_with fail
    refine (H87.out _).mono ?_
    rintro e w1 ⟨rfl, rfl⟩
    go_wp2
    go_ret
    exact ⟨rfl, E0.out⟩
  · rw [hs] at h87
    have H87 := Lib.hid h87; clear h87 hs
    obtain ⟨n, hn⟩ : ∃ n, n = ms.length := ⟨_, rfl⟩
    rw [← hn] at hl HR E0 P0 hi hib g1 g2 g3 hcq ⊢
    have hoth : othB ms i x = othTo ms i x n := by rw [hn]; rfl
    rw [hoth]
    have HN := Lib.hid hn; clear hn hoth
    go_enter Try.func46, Try.ntmps46
    go_wp2_with fail
    refine (H87.out _).mono ?_
    rintro e w1 ⟨rfl, rfl⟩
    go_wp2_with fail
    generalize (w.alloc (.cells #[.int .i64 (S : Int), .int .i64 (L : Int), .slice (some ⟨b, off, none⟩) n cap] 24)) = W0 at *
    clear hcq
    go_loopw [7] (fun k wr => ∃ j : Nat, j ≤ n ∧ k = .int .i64 (j : Int) ∧ Hid (Ext W0 wr) ∧ Hid (othTo ms i x j = true)) (fun k wr => n - (RowKit.intOf k).toNat)
    case atStart => exact ⟨0, Nat.zero_le _, rfl, Ext.refl _, (rfl : _ = _)⟩
    case round =>
      obtain ⟨k, hk, rfl, hE, hF⟩ := hrel
      obtain ⟨g1, g2, g3⟩ := P0.out.ext hE.out
      by_cases hlt : k < n
      · obtain ⟨m, hm⟩ := get_some (show k < ms.length by rw [← HN.out]; exact hlt)
        obtain ⟨b1, off1, hbo, -, hck⟩ := (HR.out.ext hE.out).atN hm
        cases hbo
        have hm2 := HV.out.lt hm
        have hs := othTo_succ ms i x k
        rw [mAt_of hm, hF.out, Bool.true_and] at hs
        have hfl := othTo_false ms i x k n hlt
        rw [mAt_of hm] at hfl
        have HS := Lib.hid hs; have HFL := Lib.hid hfl; clear hs hm hfl
        have hka : (0 : Int) ≤ (k : Int) := by omega
        have hkb : (k : Int) < (n : Int) := by omega
        have h87 := fun W => within87_any x m hx hm2 W
        by_cases hki : k = i
        · subst hki
          have HF3 := Lib.hid (show othTo ms k x (k + 1) = true from by rw [HS.out]; simp)
          clear h87
          go_wp2
          go_roundw
          case rel => exact ⟨k + 1, by omega, by go_num, hE.out, (HF3.out : _ = _)⟩
          case measure => simp [RowKit.intOf]; omega
        · have hne : ((k : Int) != (i : Int)) = true := by simp; omega
          cases hc : sub x m
          · rw [hc] at h87
            have HF3 := Lib.hid (show othTo ms i x (k + 1) = true from by rw [HS.out, hc]; simp)
            have HH := Lib.hid h87; clear h87 hc
            go_wp2_with fail
            refine (HH.out _).mono ?_
            rintro e w1 ⟨rfl, rfl⟩
            go_wp2
            go_roundw
            case rel => exact ⟨k + 1, by omega, by go_num, hE.out, (HF3.out : _ = _)⟩
            case measure => simp [RowKit.intOf]; omega
          · rw [hc] at h87
            have HF3 := Lib.hid (HFL.out hki hc)
            have HH := Lib.hid h87; clear h87 hc
            go_wp2_with fail
            refine (HH.out _).mono ?_
            rintro e w1 ⟨rfl, rfl⟩
            go_wp2
            go_ret
            exact ⟨by rw [HF3.out]; rfl, E0.out.trans hE.out⟩
      · obtain rfl : k = n := by omega
        go_wp2
        go_ret
        exact ⟨by rw [hF.out]; rfl, E0.out.trans hE.out⟩
end Go.Proofs.Ytlgdnbpboonhdaa
namespace Go.Proofs.Ytlgdnbpboonhdaa
set_option linter.unusedVariables false
def bitN (x i : Nat) : Nat := x / 2 ^ i % 2
def lowF : Nat → Nat → Nat → Nat
  | 0, _, _ => 0
  | n + 1, i, d => bif Nat.beq (d / 2 ^ i % 2) 1 then 2 ^ i else lowF n (i + 1) d
theorem low_all : allTo (fun d => decide (bits .and .i64 (d : Int) (-(d : Int)) = (lowF 10 0 d : Int))) 1024 = true := by decide +kernel
theorem low_eq (d : Nat) (h : d < 1024) : bits .and .i64 (d : Int) (-(d : Int)) = (lowF 10 0 d : Int) := of_decide_eq_true (allTo_spec _ _ low_all d h)
theorem and_pow (a i : Nat) : a &&& 2 ^ i = bitN a i * 2 ^ i := by
  have hb : bitN a i = (a.testBit i).toNat := by unfold bitN; rw [Nat.toNat_testBit]
  rw [hb]
  apply Nat.eq_of_testBit_eq
  intro j
  rw [Nat.testBit_and, Nat.testBit_two_pow]
  cases h : a.testBit i
  · by_cases e : i = j
    · subst e; simp [h]
    · simp [e]
  · by_cases e : i = j
    · subst e; simp [h]
    · simp [e]
theorem xor_bit (a b i : Nat) : (a ^^^ b) / 2 ^ i % 2 = 1 ↔ bitN a i ≠ bitN b i := by
  unfold bitN
  rw [← Nat.toNat_testBit, ← Nat.toNat_testBit, ← Nat.toNat_testBit, Nat.testBit_xor]
  cases a.testBit i <;> cases b.testBit i <;> decide
theorem fst_low (a b : Nat) : ∀ n i, fst n i a b = true ↔ b &&& lowF n i (a ^^^ b) < a &&& lowF n i (a ^^^ b)
  | 0, i => by simp [fst, lowF]
  | n + 1, i => by
    have hx := xor_bit a b i
    by_cases h : bitN a i = bitN b i
    · have h2 : ¬ (a ^^^ b) / 2 ^ i % 2 = 1 := fun e => hx.1 e h
      have h3 : lowF (n + 1) i (a ^^^ b) = lowF n (i + 1) (a ^^^ b) := by
        have : Nat.beq ((a ^^^ b) / 2 ^ i % 2) 1 = false := by
          rw [Bool.eq_false_iff]; intro e; exact h2 (Nat.eq_of_beq_eq_true e)
        simp only [lowF, this, cond_false]
      rw [fst_eq n i a b h, h3]
      exact fst_low a b n (i + 1)
    · have h2 : (a ^^^ b) / 2 ^ i % 2 = 1 := hx.2 h
      have h3 : lowF (n + 1) i (a ^^^ b) = 2 ^ i := by
        simp only [lowF, h2]; rfl
      rw [fst_ne n i a b h, h3, and_pow, and_pow]
      have ha : bitN a i < 2 := Nat.mod_lt _ (by decide)
      have hb : bitN b i < 2 := Nat.mod_lt _ (by decide)
      have hp := Nat.two_pow_pos i
      show (bitN a i == 1) = true ↔ _
      rw [beq_iff_eq]
      constructor
      · intro e
        have : bitN b i = 0 := by omega
        rw [e, this]; omega
      · intro e
        have : bitN a i ≠ 0 := by
          intro e0; rw [e0] at e; omega
        omega
/-- The strokes in the reverse order, as a number. -/
def revF : Nat → Nat → Nat → Nat
  | 0, _, _ => 0
  | n + 1, i, x => bitN x i * 2 ^ n + revF n (i + 1) x
theorem revF_lt (x : Nat) : ∀ n i, revF n i x < 2 ^ n
  | 0, i => by simp [revF]
  | n + 1, i => by
    have h := revF_lt x n (i + 1)
    have hb : bitN x i < 2 := Nat.mod_lt _ (by decide)
    rw [Nat.pow_succ]
    unfold revF
    have : bitN x i = 0 ∨ bitN x i = 1 := by omega
    rcases this with e | e <;> rw [e] <;> omega
theorem fst_rev (a b : Nat) : ∀ n i, fst n i a b = true ↔ revF n i b < revF n i a
  | 0, i => by simp [fst, revF]
  | n + 1, i => by
    have h1 := revF_lt a n (i + 1)
    have h2 := revF_lt b n (i + 1)
    have ha : bitN a i < 2 := Nat.mod_lt _ (by decide)
    have hb : bitN b i < 2 := Nat.mod_lt _ (by decide)
    unfold revF
    by_cases h : bitN a i = bitN b i
    · rw [fst_eq n i a b h, fst_rev a b n (i + 1), h]; omega
    · rw [fst_ne n i a b h]
      show (bitN a i == 1) = true ↔ _
      rw [beq_iff_eq]
      have : (bitN a i = 0 ∧ bitN b i = 1) ∨ (bitN a i = 1 ∧ bitN b i = 0) := by omega
      rcases this with ⟨e1, e2⟩ | ⟨e1, e2⟩ <;> rw [e1, e2] <;> omega
theorem rev_bits (a b : Nat) : ∀ n i, revF n i a = revF n i b → ∀ j, j < n → bitN a (i + j) = bitN b (i + j)
  | 0, i, _, j, hj => absurd hj (by omega)
  | n + 1, i, h, j, hj => by
    have h1 := revF_lt a n (i + 1)
    have h2 := revF_lt b n (i + 1)
    have ha : bitN a i < 2 := Nat.mod_lt _ (by decide)
    have hb : bitN b i < 2 := Nat.mod_lt _ (by decide)
    unfold revF at h
    have hab : bitN a i = bitN b i := by
      by_cases e : bitN a i = bitN b i
      · exact e
      · exfalso
        have : (bitN a i = 0 ∧ bitN b i = 1) ∨ (bitN a i = 1 ∧ bitN b i = 0) := by omega
        rcases this with ⟨e1, e2⟩ | ⟨e1, e2⟩ <;> rw [e1, e2] at h <;> omega
    rw [hab] at h
    cases j with
    | zero => exact hab
    | succ j =>
      have := rev_bits a b n (i + 1) (by omega) j (by omega)
      rwa [show i + (j + 1) = i + 1 + j by omega]
theorem rev_inj (a b : Nat) (ha : a < 1024) (hb : b < 1024) (h : revF 10 0 a = revF 10 0 b) : a = b := by
  apply Nat.eq_of_testBit_eq
  intro i
  by_cases hi : i < 10
  · have := rev_bits a b 10 0 h i hi
    unfold bitN at this
    rw [Nat.zero_add, ← Nat.toNat_testBit, ← Nat.toNat_testBit] at this
    revert this
    cases a.testBit i <;> cases b.testBit i <;> decide
  · have h10 : (1024 : Nat) ≤ 2 ^ i := by
      have := Nat.pow_le_pow_right (n := 2) (by decide) (show 10 ≤ i by omega)
      simpa using this
    rw [Nat.testBit_lt_two_pow (by omega), Nat.testBit_lt_two_pow (by omega)]
/-- How early a set comes. -/
def key (x : Nat) : Nat := pc x * 1024 + (1023 - revF 10 0 x)
theorem key_lt (a b : Nat) (ha : a < 1024) (hb : b < 1024) : key a < key b ↔ pc a < pc b ∨ pc a = pc b ∧ fst 10 0 a b = true := by
  rw [fst_rev]
  have h1 := revF_lt a 10 0
  have h2 := revF_lt b 10 0
  unfold key
  omega
theorem key_inj (a b : Nat) (ha : a < 1024) (hb : b < 1024) (h : key a = key b) : a = b := by
  have h1 := revF_lt a 10 0
  have h2 := revF_lt b 10 0
  unfold key at h
  exact rev_inj a b ha hb (by omega)
theorem lowF_lt (d : Nat) : ∀ n i, n + i ≤ 10 → lowF n i d < 1024
  | 0, i, _ => by simp [lowF]
  | n + 1, i, h => by
    unfold lowF
    cases Nat.beq (d / 2 ^ i % 2) 1
    · exact lowF_lt d n (i + 1) (by omega)
    · have : 2 ^ i < 2 ^ 10 := Nat.pow_lt_pow_right (by decide) (by omega)
      simpa using this
theorem fewO_key (a b : Nat) (ha : a < 1024) (hb : b < 1024) : fewO a b < 0 ↔ key a < key b := by
  rw [key_lt a b ha hb, fst_low]
  have hd : a ^^^ b < 1024 := Nat.xor_lt_two_pow (n := 10) ha hb
  unfold fewO
  rw [low_eq _ hd]
  have hl : lowF 10 0 (a ^^^ b) < 1024 := lowF_lt _ 10 0 (by decide)
  rw [and_nat b _ (by omega) (by omega), and_nat a _ (by omega) (by omega)]
  generalize b &&& lowF 10 0 (a ^^^ b) = y
  generalize a &&& lowF 10 0 (a ^^^ b) = x
  simp only [orL, cmpI]
  split <;> split <;> (try split) <;> (try split) <;> (try split) <;> omega
/-- The first one of some sets, as a list in any order has it. -/
def IsFirst (l : List Nat) (o : Option Nat) : Prop := match o with | none => l = [] | some p => p ∈ l ∧ ∀ x ∈ l, key p ≤ key x
theorem first_isFirst (l : List Nat) (hl : ∀ x ∈ l, x < 1024) : IsFirst l (firstBy l) := by
  have : ∀ (l m : List Nat) (o : Option Nat), (∀ x ∈ l, x < 1024) → (∀ x ∈ m, x < 1024) → IsFirst m o → IsFirst (m ++ l) (l.foldl bestBy o) := by
    intro l
    induction l with
    | nil => intro m o _ _ h; simpa using h
    | cons x l ih =>
      intro m o hl hm h
      have hx := hl x (by simp)
      rw [List.foldl_cons, show m ++ x :: l = (m ++ [x]) ++ l by simp]
      refine ih (m ++ [x]) _ (fun y hy => hl y (by simp [hy])) (fun y hy => ?_) ?_
      · rw [List.mem_append, List.mem_singleton] at hy
        rcases hy with hy | rfl
        · exact hm y hy
        · exact hx
      · cases o with
        | none =>
          have hm0 : m = [] := h
          subst hm0
          exact ⟨by simp, fun y hy => by simp at hy; rw [hy]; exact Nat.le_refl _⟩
        | some p =>
          obtain ⟨h1, h2⟩ := h
          have hf := fewO_key x p hx (hm p h1)
          unfold bestBy
          dsimp only
          split
          · next hlt =>
            have := hf.1 hlt
            refine ⟨by simp, fun y hy => ?_⟩
            rw [List.mem_append, List.mem_singleton] at hy
            rcases hy with hy | rfl
            · have := h2 y hy; omega
            · exact Nat.le_refl _
          · next hlt =>
            have : ¬ key x < key p := fun e => hlt (hf.2 e)
            refine ⟨by simp [h1], fun y hy => ?_⟩
            rw [List.mem_append, List.mem_singleton] at hy
            rcases hy with hy | rfl
            · exact h2 y hy
            · omega
  have h := this l [] none hl (by simp) rfl
  simpa [firstBy] using h
theorem isFirst_unique {l m : List Nat} {o p : Option Nat} (hl : ∀ x ∈ l, x < 1024) (h : ∀ x, x ∈ l ↔ x ∈ m) (ho : IsFirst l o) (hp : IsFirst m p) : o = p := by
  cases o with
  | none =>
    have hl0 : l = [] := ho
    subst hl0
    cases p with
    | none => rfl
    | some q => exact absurd ((h q).2 hp.1) (by simp)
  | some q =>
    cases p with
    | none =>
      have hm0 : m = [] := hp
      subst hm0
      exact absurd ((h q).1 ho.1) (by simp)
    | some r =>
      have h1 := ho.2 r ((h r).2 hp.1)
      have h2 := hp.2 q ((h q).1 ho.1)
      rw [key_inj q r (hl q ho.1) (hl r ((h r).2 hp.1)) (by omega)]
end Go.Proofs.Ytlgdnbpboonhdaa
namespace Go.Proofs.Ytlgdnbpboonhdaa
open Go.RowKit
set_option linter.unusedVariables false
theorem IsFirst.none_snoc {m : List Nat} {x : Nat} (h : IsFirst m none) : IsFirst (m ++ [x]) (some x) := by
  have hm0 : m = [] := h
  subst hm0
  exact ⟨by simp, fun y hy => by simp at hy; rw [hy]; exact Nat.le_refl _⟩
theorem IsFirst.better {m : List Nat} {x p : Nat} (h : IsFirst m (some p)) (hlt : key x < key p) : IsFirst (m ++ [x]) (some x) := by
  refine ⟨by simp, fun y hy => ?_⟩
  rw [List.mem_append, List.mem_singleton] at hy
  rcases hy with hy | rfl
  · have := h.2 y hy; omega
  · exact Nat.le_refl _
theorem IsFirst.stay {m : List Nat} {x p : Nat} (h : IsFirst m (some p)) (hlt : ¬ key x < key p) : IsFirst (m ++ [x]) (some p) := by
  refine ⟨by simp [h.1], fun y hy => ?_⟩
  rw [List.mem_append, List.mem_singleton] at hy
  rcases hy with hy | rfl
  · exact h.2 y hy
  · omega
def kV : Option Nat → Int
  | none => -1
  | some p => (p : Int)
def tellL (ms : List Nat) (i k : Nat) : List Nat := (List.range k).filter (tellsB ms i)
theorem tellL_no (ms : List Nat) (i k : Nat) (h : tellsB ms i k = false) : tellL ms i (k + 1) = tellL ms i k := by
  unfold tellL; rw [List.range_succ, List.filter_append]; simp [h]
theorem tellL_yes (ms : List Nat) (i k : Nat) (h : tellsB ms i k = true) : tellL ms i (k + 1) = tellL ms i k ++ [k] := by
  unfold tellL; rw [List.range_succ, List.filter_append]; simp [h]
theorem pc_full (S : Nat) (h1 : 1 ≤ S) (h2 : S ≤ 10) : pc (full S) = S := by
  have : S = 1 ∨ S = 2 ∨ S = 3 ∨ S = 4 ∨ S = 5 ∨ S = 6 ∨ S = 7 ∨ S = 8 ∨ S = 9 ∨ S = 10 := by omega
  rcases this with rfl | rfl | rfl | rfl | rfl | rfl | rfl | rfl | rfl | rfl <;> decide
theorem pc_le_S (S m : Nat) (h1 : 1 ≤ S) (h2 : S ≤ 10) (hm : m ≤ full S) : pc m ≤ S := by
  have hs : sub m (full S) = true := by
    rw [sub_spec]
    unfold full at *
    rw [Nat.and_two_pow_sub_one_eq_mod]
    have := Nat.two_pow_pos S
    exact Nat.mod_eq_of_lt (by omega)
  have := pc_sub _ _ hs
  rwa [pc_full S h1 h2] at this
theorem keepO_of {S L : Nat} {ms : List Nat} (hv : Valid S L ms) (i : Nat) {m : Nat} (hm : ms[i]? = some m) {o : Option Nat} (ho : IsFirst (tellL ms i (m + 1)) o) : keepO S ms i = o := by
  have hm2 := hv.lt hm
  have hm3 := hv.mlt hm
  have hlt : ∀ x ∈ (wornL (mAt ms i) S).filter (othB ms i), x < 1024 := by
    intro x hx
    rw [List.mem_filter, mAt_of hm, mem_wornL _ _ _ hm2, cb_iff _ _ _ hm2] at hx
    have := sub_le _ _ hx.1.1
    omega
  unfold keepO
  refine isFirst_unique hlt ?_ (first_isFirst _ hlt) ho
  intro x
  unfold tellL tellsB
  rw [List.mem_filter, List.mem_filter, mAt_of hm, mem_wornL _ _ _ hm2, cb_iff _ _ _ hm2, List.mem_range, Bool.and_eq_true]
  have hp := pc_le_S S m hv.1 hv.2.1 hm3
  constructor
  · rintro ⟨⟨h1, -⟩, h2⟩
    have := sub_le _ _ h1
    exact ⟨by omega, h1, h2⟩
  · rintro ⟨-, h1, h2⟩
    exact ⟨⟨h1, by omega⟩, h2⟩
set_option maxRecDepth 100000 in
theorem keep33_err (S L i : Int) (xs : List Int) (v : Value) (w : World) (hr : Reads w v xs) (hc : chk S L xs ≠ 0) :
    Calls Try.prog 33 #[.agg #[.int .i64 S, .int .i64 L, v], .int .i64 i] w fun e w' => e = .returned (.tuple #[.int .i64 0, .int .i64 (chk S L xs)]) ∧ Ext w w' := by
  obtain ⟨hl, a, cap, rfl⟩ := hr.shape
  have E0 := Lib.hid ((Ext.refl w).alloc (.cells #[.int .i64 S, .int .i64 L, .slice a xs.length cap] 24))
  have P0 := Lib.hid (OffAt.new w (.int .i64 S) (.int .i64 L) (.slice a xs.length cap) 24)
  have HR := Lib.hid hr; clear hr
  obtain ⟨c, hc'⟩ : ∃ c, c = chk S L xs := ⟨_, rfl⟩
  rw [← hc'] at hc ⊢
  have HC := Lib.hid hc'; clear hc'
  have hd : (c != 0) = true := by simpa using hc
  clear hc
  go_enter Try.func33, Try.ntmps33
  go_wp2_with fail
  refine (check22 _ _ _ xs _ (HR.out.ext E0.out)).mono ?_
  rintro e w1 ⟨rfl, hb⟩
  obtain ⟨g1, g2, g3⟩ := P0.out.ext hb
  have HB := Lib.hid (E0.out.trans hb); clear hb
  rw [← HC.out]
  go_wp2_with fail
  refine (check22 _ _ _ xs _ (HR.out.ext HB.out)).mono ?_
  rintro e w2 ⟨rfl, hb⟩
  replace HB := Lib.hid (HB.out.trans hb); clear hb
  rw [← HC.out]
  go_wp2
  go_ret2
  exact ⟨rfl, HB.out⟩
set_option maxRecDepth 100000 in
theorem keep33_arg (S L : Nat) (i : Int) (ms : List Nat) (v : Value) (w : World) (hv : Valid S L ms) (hr : Reads w v (ints ms)) (hi : ¬ (0 ≤ i ∧ i < ms.length)) :
    Calls Try.prog 33 #[.agg #[.int .i64 (S : Int), .int .i64 (L : Int), v], .int .i64 i] w fun e w' => e = .returned (.tuple #[.int .i64 0, .int .i64 2]) ∧ Ext w w' := by
  obtain ⟨hl, a, cap, rfl⟩ := hr.shape
  rw [ints_length] at hr hl ⊢
  have E0 := Lib.hid ((Ext.refl w).alloc (.cells #[.int .i64 (S : Int), .int .i64 (L : Int), .slice a ms.length cap] 24))
  have P0 := Lib.hid (OffAt.new w (.int .i64 (S : Int)) (.int .i64 (L : Int)) (.slice a ms.length cap) 24)
  have HR := Lib.hid hr; clear hr
  have HC := Lib.hid (chk_ok hv); clear hv
  have h63 := fun W => isOwner63 (S : Int) (L : Int) i a ms.length cap W hl
  rw [decide_eq_false hi] at h63
  have H63 := Lib.hid h63
  clear hi h63
  go_enter Try.func33, Try.ntmps33
  go_wp2_with fail
  refine (check22 _ _ _ (ints ms) _ (HR.out.ext E0.out)).mono ?_
  rintro e w1 ⟨rfl, hb⟩
  obtain ⟨g1, g2, g3⟩ := P0.out.ext hb
  have HB := Lib.hid (E0.out.trans hb); clear hb
  rw [HC.out]
  go_wp2_with fail
  refine (H63.out _).mono ?_
  rintro e w2 ⟨rfl, hb⟩
  replace HB := Lib.hid (HB.out.trans hb); clear hb
  go_wp2
  go_ret2
  exact ⟨rfl, HB.out⟩
set_option maxRecDepth 100000 in
set_option maxHeartbeats 4000000 in
theorem keep33_ok (S L i : Nat) (ms : List Nat) (v : Value) (w : World) (hv : Valid S L ms) (hr : Reads w v (ints ms)) (hi : i < ms.length) :
    Calls Try.prog 33 #[.agg #[.int .i64 (S : Int), .int .i64 (L : Int), v], .int .i64 (i : Int)] w fun e w' => e = .returned (.tuple #[.int .i64 (keepV (keepO S ms i)).1, .int .i64 (keepV (keepO S ms i)).2]) ∧ Ext w w' := by
  obtain ⟨hl, a, cap, rfl⟩ := hr.shape
  rw [ints_length] at hr hl ⊢
  have E0 := Lib.hid ((Ext.refl w).alloc (.cells #[.int .i64 (S : Int), .int .i64 (L : Int), .slice a ms.length cap] 24))
  have P0 := Lib.hid (OffAt.new w (.int .i64 (S : Int)) (.int .i64 (L : Int)) (.slice a ms.length cap) 24)
  obtain ⟨m, hm⟩ := get_some hi
  have hm2 := hv.lt hm
  obtain ⟨b, off, rfl, -, -⟩ := hr.atN hm
  have HR := Lib.hid hr; clear hr
  have HC := Lib.hid (chk_ok hv)
  have HV := Lib.hid hv; clear hv
  have h63 := fun W => isOwner63 (S : Int) (L : Int) (i : Int) (some ⟨b, off, none⟩) ms.length cap W hl
  rw [decide_eq_true (show 0 ≤ (i : Int) ∧ (i : Int) < (ms.length : Int) by omega)] at h63
  have H63 := Lib.hid h63
  have HM := Lib.hid hm
  have hia : (0 : Int) ≤ (i : Int) := by omega
  have hib : (i : Int) < (ms.length : Int) := by omega
  have HI := Lib.hid hi
  clear h63 hm hi
  go_enter Try.func33, Try.ntmps33
  go_wp2_with fail
  refine (check22 _ _ _ (ints ms) _ (HR.out.ext E0.out)).mono ?_
  rintro e w1 ⟨rfl, hb⟩
  obtain ⟨g1, g2, g3⟩ := P0.out.ext hb
  have HB := Lib.hid (E0.out.trans hb); clear hb
  rw [HC.out]
  go_wp2_with fail
  refine (H63.out _).mono ?_
  rintro e w2 ⟨rfl, hb⟩
  have P2 := Lib.hid (OffAt.ext ⟨g1, g2, g3⟩ hb)
  replace HB := Lib.hid (HB.out.trans hb); clear hb g1 g2 g3
  go_wp2_with fail
  go_loopw [6, 7] (fun s k wr => ∃ (j : Nat) (o : Option Nat), j ≤ m + 1 ∧ k = .int .i64 (j : Int) ∧ s = .int .i64 (kV o) ∧ Hid (Ext w2 wr) ∧ Hid (IsFirst (tellL ms i j) o)) (fun s k wr => m + 1 - (RowKit.intOf k).toNat)
  case atStart => exact ⟨0, none, Nat.zero_le _, rfl, rfl, Ext.refl _, (show tellL ms i 0 = [] from rfl : IsFirst (tellL ms i 0) none)⟩
  case round =>
    obtain ⟨k, o, hk, rfl, rfl, hE, hF⟩ := hrel
    obtain ⟨g1, g2, g3⟩ := P2.out.ext hE.out
    obtain ⟨b1, off1, hbo, -, hcq⟩ := (HR.out.ext (HB.out.trans hE.out)).atN HM.out
    cases hbo
    by_cases hlt : k ≤ m
    · have h46 := tells46 S L i k ms _ wr HV.out (HR.out.ext (HB.out.trans hE.out)) HI.out (by omega)
      cases ht : tellsB ms i k
      · rw [ht] at h46
        have H46 := Lib.hid h46
        have HF2 := Lib.hid (show IsFirst (tellL ms i (k + 1)) o from by rw [tellL_no _ _ _ ht]; exact hF.out)
        clear h46 ht
        go_wp2_with fail
        refine H46.out.mono ?_
        rintro e w3 ⟨rfl, hb⟩
        have HE3 := Lib.hid (hE.out.trans hb); clear hb
        go_wp2
        go_roundw
        case rel => exact ⟨k + 1, o, by omega, by go_num, rfl, HE3.out, HF2.out⟩
        case measure => simp [RowKit.intOf]; omega
      · rw [ht] at h46
        have H46 := Lib.hid h46
        have HT := Lib.hid (tellL_yes ms i k ht)
        clear h46 ht
        cases o with
        | none =>
          have HF2 := Lib.hid (show IsFirst (tellL ms i (k + 1)) (some k) from by rw [HT.out]; exact hF.out.none_snoc)
          simp only [kV]
          go_wp2_with fail
          refine H46.out.mono ?_
          rintro e w3 ⟨rfl, hb⟩
          have HE3 := Lib.hid (hE.out.trans hb); clear hb
          go_wp2
          go_roundw
          case rel => exact ⟨k + 1, some k, by omega, by go_num, rfl, HE3.out, HF2.out⟩
          case measure => simp [RowKit.intOf]; omega
        | some p =>
          have hp : p < 1024 := by
            have := hF.out.1
            unfold tellL at this
            rw [List.mem_filter, List.mem_range] at this
            omega
          have hkey := key_lt k p (by omega) hp
          have HK := Lib.hid hkey; clear hkey
          have HS1 := Lib.hid (fun W => size_any k (by omega) W)
          have HS2 := Lib.hid (fun W => size_any p hp W)
          have h48 := fun W => first48_any k p (by omega) hp W
          simp only [kV]
          by_cases hA : pc k < pc p
          · have HF2 := Lib.hid (show IsFirst (tellL ms i (k + 1)) (some k) from by rw [HT.out]; exact hF.out.better (HK.out.2 (.inl hA)))
            clear h48
            go_wp2_with fail
            refine H46.out.mono ?_
            rintro e w3 ⟨rfl, hb⟩
            have HE3 := Lib.hid (hE.out.trans hb); clear hb
            go_wp2_with fail
            refine (HS1.out _).mono ?_
            rintro e w' ⟨rfl, rfl⟩
            go_wp2_with fail
            refine (HS2.out _).mono ?_
            rintro e w' ⟨rfl, rfl⟩
            go_wp2
            go_roundw
            case rel => exact ⟨k + 1, some k, by omega, by go_num, rfl, HE3.out, HF2.out⟩
            case measure => simp [RowKit.intOf]; omega
          · by_cases hB : pc k = pc p
            · have heq : ((pc k : Int) == (pc p : Int)) = true := by simp; omega
              cases hf : fst 10 0 k p
              · rw [hf] at h48
                have H48 := Lib.hid h48
                have HF2 := Lib.hid (show IsFirst (tellL ms i (k + 1)) (some p) from by rw [HT.out]; exact hF.out.stay (fun h => by rcases HK.out.1 h with h | ⟨-, h⟩; exact hA h; rw [hf] at h; cases h))
                clear h48 hf
                go_wp2_with fail
                refine H46.out.mono ?_
                rintro e w3 ⟨rfl, hb⟩
                have HE3 := Lib.hid (hE.out.trans hb); clear hb
                go_wp2_with fail
                refine (HS1.out _).mono ?_
                rintro e w' ⟨rfl, rfl⟩
                go_wp2_with fail
                refine (HS2.out _).mono ?_
                rintro e w' ⟨rfl, rfl⟩
                go_wp2_with fail
                refine (HS1.out _).mono ?_
                rintro e w' ⟨rfl, rfl⟩
                go_wp2_with fail
                refine (HS2.out _).mono ?_
                rintro e w' ⟨rfl, rfl⟩
                go_wp2_with fail
                refine (H48.out _).mono ?_
                rintro e w4 ⟨rfl, hb⟩
                have HE4 := Lib.hid (HE3.out.trans hb); clear hb
                go_wp2
                go_roundw
                case rel => exact ⟨k + 1, some p, by omega, by go_num, rfl, HE4.out, HF2.out⟩
                case measure => simp [RowKit.intOf]; omega
              · rw [hf] at h48
                have H48 := Lib.hid h48
                have HF2 := Lib.hid (show IsFirst (tellL ms i (k + 1)) (some k) from by rw [HT.out]; exact hF.out.better (HK.out.2 (.inr ⟨hB, hf⟩)))
                clear h48 hf
                go_wp2_with fail
                refine H46.out.mono ?_
                rintro e w3 ⟨rfl, hb⟩
                have HE3 := Lib.hid (hE.out.trans hb); clear hb
                go_wp2_with fail
                refine (HS1.out _).mono ?_
                rintro e w' ⟨rfl, rfl⟩
                go_wp2_with fail
                refine (HS2.out _).mono ?_
                rintro e w' ⟨rfl, rfl⟩
                go_wp2_with fail
                refine (HS1.out _).mono ?_
                rintro e w' ⟨rfl, rfl⟩
                go_wp2_with fail
                refine (HS2.out _).mono ?_
                rintro e w' ⟨rfl, rfl⟩
                go_wp2_with fail
                refine (H48.out _).mono ?_
                rintro e w4 ⟨rfl, hb⟩
                have HE4 := Lib.hid (HE3.out.trans hb); clear hb
                go_wp2
                go_roundw
                case rel => exact ⟨k + 1, some k, by omega, by go_num, rfl, HE4.out, HF2.out⟩
                case measure => simp [RowKit.intOf]; omega
            · have heq : ((pc k : Int) == (pc p : Int)) = false := by simp; omega
              have HF2 := Lib.hid (show IsFirst (tellL ms i (k + 1)) (some p) from by rw [HT.out]; exact hF.out.stay (fun h => by rcases HK.out.1 h with h | ⟨h, -⟩; exact hA h; exact hB h))
              clear h48
              go_wp2_with fail
              refine H46.out.mono ?_
              rintro e w3 ⟨rfl, hb⟩
              have HE3 := Lib.hid (hE.out.trans hb); clear hb
              go_wp2_with fail
              refine (HS1.out _).mono ?_
              rintro e w' ⟨rfl, rfl⟩
              go_wp2_with fail
              refine (HS2.out _).mono ?_
              rintro e w' ⟨rfl, rfl⟩
              go_wp2_with fail
              refine (HS1.out _).mono ?_
              rintro e w' ⟨rfl, rfl⟩
              go_wp2_with fail
              refine (HS2.out _).mono ?_
              rintro e w' ⟨rfl, rfl⟩
              go_wp2
              go_roundw
              case rel => exact ⟨k + 1, some p, by omega, by go_num, rfl, HE3.out, HF2.out⟩
              case measure => simp [RowKit.intOf]; omega
    · obtain rfl : k = m + 1 := by omega
      have HKO := Lib.hid (keepO_of HV.out i HM.out hF.out)
      cases o with
      | none =>
        simp only [kV]
        go_wp2
        go_ret2
        exact ⟨by rw [HKO.out]; rfl, HB.out.trans hE.out⟩
      | some p =>
        simp only [kV]
        go_wp2
        go_ret2
        exact ⟨by rw [HKO.out]; rfl, HB.out.trans hE.out⟩
end Go.Proofs.Ytlgdnbpboonhdaa
