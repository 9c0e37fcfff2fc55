/- Plain facts: the margin, and marks that are apart. Plain facts: how many strokes sets have, and the worn mark that can be two marks. The reference's Both and AreApart. The reference's AreApart. The reference's Clash, Apart and Margin. The reference's Clash, Apart and Margin, in a valid office. The reference's Apart and Margin, in a valid office. -/
import Derived.Test.YtlgdnbpboonhdaaA2
import Derived.Test.YtlgdnbpboonhdaaP
import Derived.Test.YtlgdnbpboonhdaaM7
namespace Go.Proofs.Ytlgdnbpboonhdaa
set_option linter.unusedVariables false
theorem foldMin_le (f : Nat × Nat → Int) : ∀ (ps : List (Nat × Nat)) (a L : Int), L ≤ ps.foldl (fun a p => min a (f p)) a ↔ L ≤ a ∧ ∀ p ∈ ps, L ≤ f p
  | [], a, L => by simp
  | p :: l, a, L => by
    rw [List.foldl_cons, foldMin_le f l]
    simp only [List.mem_cons, forall_eq_or_imp]
    constructor
    · rintro ⟨h1, h2⟩; exact ⟨by omega, by omega, h2⟩
    · rintro ⟨h1, h2, h3⟩; exact ⟨by omega, h3⟩
theorem le_margin (S : Nat) (ms : List Nat) (ps : List (Nat × Nat)) (L : Int) : L ≤ marginL S ms ps ↔ L ≤ S ∧ ∀ p ∈ ps, L ≤ mg ms p := foldMin_le _ _ _ _
theorem clash1_none (ms : List Nat) (L : Nat) : clash1 ms L = none ↔ ∀ p ∈ pairsL ms.length, clB ms L p = false := by
  unfold clash1
  rw [List.find?_eq_none]
  simp
/-- Marks are apart just if Loss is not above the margin. -/
theorem apart_margin (S L : Nat) (ms : List Nat) (hL : L ≤ S) : clash1 ms L = none ↔ (L : Int) ≤ marginL S ms (pairsL ms.length) := by
  rw [clash1_none, le_margin]
  constructor
  · intro h
    refine ⟨by omega, fun p hp => ?_⟩
    have := h p hp
    unfold clB at this
    simp only [decide_eq_false_iff_not] at this
    unfold mg; omega
  · rintro ⟨-, h⟩ p hp
    have := h p hp
    unfold mg at this
    unfold clB
    simp only [decide_eq_false_iff_not]
    omega
end Go.Proofs.Ytlgdnbpboonhdaa
namespace Go.Proofs.Ytlgdnbpboonhdaa
set_option linter.unusedVariables false
def tb (n i : Nat) : Nat := (n.testBit i).toNat
theorem pc_bits (n : Nat) : pc n = tb n 0 + tb n 1 + tb n 2 + tb n 3 + tb n 4 + tb n 5 + tb n 6 + tb n 7 + tb n 8 + tb n 9 := by
  unfold pc tb
  simp only [Nat.toNat_testBit, Nat.reducePow, Nat.div_one]
theorem tb_and (a b i : Nat) : tb (a &&& b) i = min (tb a i) (tb b i) := by
  unfold tb; rw [Nat.testBit_and]; cases a.testBit i <;> cases b.testBit i <;> rfl
theorem tb_dif (a b i : Nat) : tb (dif a b) i = tb a i - tb b i := by
  unfold tb dif; rw [Nat.testBit_xor, Nat.testBit_and]; cases a.testBit i <;> cases b.testBit i <;> rfl
theorem tb_le (a i : Nat) : tb a i ≤ 1 := by unfold tb; cases a.testBit i <;> decide
theorem tb_split (a b i : Nat) : tb a i = tb (a &&& b) i + tb (dif a b) i := by
  unfold tb dif; rw [Nat.testBit_xor, Nat.testBit_and]; cases a.testBit i <;> cases b.testBit i <;> rfl
theorem pc_split (a b : Nat) : pc a = pc (a &&& b) + pc (dif a b) := by
  rw [pc_bits a, pc_bits (a &&& b), pc_bits (dif a b), tb_split a b 0, tb_split a b 1, tb_split a b 2, tb_split a b 3, tb_split a b 4, tb_split a b 5, tb_split a b 6, tb_split a b 7, tb_split a b 8, tb_split a b 9]
  ac_rfl
theorem pc_dif (w m : Nat) (h : sub w m = true) : pc (dif m w) + pc w = pc m := by
  have := pc_split m w
  rw [Nat.and_comm, (sub_spec w m).1 h] at this
  omega
theorem tb_zero (n i : Nat) (h : tb n i = 0) : n.testBit i = false := by unfold tb at h; cases e : n.testBit i <;> simp_all
theorem pc_zero (n : Nat) (h : n < 1024) (hp : pc n = 0) : n = 0 := by
  rw [pc_bits] at hp
  simp only [Nat.add_eq_zero_iff] at hp
  obtain ⟨⟨⟨⟨⟨⟨⟨⟨⟨h0, h1⟩, h2⟩, h3⟩, h4⟩, h5⟩, h6⟩, h7⟩, h8⟩, h9⟩ := hp
  apply Nat.eq_of_testBit_eq
  intro i
  rw [Nat.zero_testBit]
  match i with
  | 0 => exact tb_zero _ _ h0
  | 1 => exact tb_zero _ _ h1
  | 2 => exact tb_zero _ _ h2
  | 3 => exact tb_zero _ _ h3
  | 4 => exact tb_zero _ _ h4
  | 5 => exact tb_zero _ _ h5
  | 6 => exact tb_zero _ _ h6
  | 7 => exact tb_zero _ _ h7
  | 8 => exact tb_zero _ _ h8
  | 9 => exact tb_zero _ _ h9
  | k + 10 => exact Nat.testBit_lt_two_pow (Nat.lt_of_lt_of_le h (by rw [Nat.pow_add]; exact Nat.le_mul_of_pos_left _ (Nat.two_pow_pos k)))
theorem pc_sub (w m : Nat) (h : sub w m = true) : pc w ≤ pc m := by have := pc_dif w m h; omega
theorem pc_lt (w m : Nat) (h : sub w m = true) (hm : m < 1024) (hne : w ≠ m) : pc w < pc m := by
  have h1 := pc_dif w m h
  have h2 : pc (dif m w) ≠ 0 := fun h0 => by
    have := pc_zero _ (dif_lt m w hm) h0
    rw [dif_of_sub w m h hm] at this
    have := sub_le w m h
    omega
  omega
theorem cb_iff (L : Int) (w m : Nat) (hm : m < 1024) : cb L w m = true ↔ sub w m = true ∧ (pc m : Int) - pc w ≤ L := by
  cases hs : sub w m
  · simp [cb_sub _ _ _ hs]
  · rw [cb_yes _ _ _ hs, ← dif_of_sub _ _ hs hm]
    have := pc_dif w m hs
    simp; omega
theorem sub_and_left (a b : Nat) : sub (a &&& b) a = true := by
  rw [sub_spec, Nat.and_comm a b, Nat.and_assoc, Nat.and_self]
theorem sub_and_right (a b : Nat) : sub (a &&& b) b = true := by
  rw [sub_spec, Nat.and_assoc, Nat.and_self]
theorem sub_and (w a b : Nat) (ha : sub w a = true) (hb : sub w b = true) : sub w (a &&& b) = true := by
  rw [sub_spec] at *
  rw [← Nat.and_assoc, ha, hb]
theorem sub_trans (a b c : Nat) (h1 : sub a b = true) (h2 : sub b c = true) : sub a c = true := by
  rw [sub_spec] at *
  rw [← h1, Nat.and_assoc, h2]
/-- Two marks clash. -/
def cl (L : Int) (a b : Nat) : Bool := cb L (a &&& b) a && cb L (a &&& b) b
theorem cl_of (L : Int) (w a b : Nat) (ha : a < 1024) (hb : b < 1024) (h1 : cb L w a = true) (h2 : cb L w b = true) : cl L a b = true ∧ w ≤ a &&& b ∧ (w ≠ a &&& b → pc w < pc (a &&& b)) := by
  rw [cb_iff _ _ _ ha] at h1
  rw [cb_iff _ _ _ hb] at h2
  have h3 := sub_and w a b h1.1 h2.1
  have h4 := pc_sub _ _ h3
  refine ⟨?_, sub_le _ _ h3, fun hne => pc_lt _ _ h3 (Nat.and_lt_two_pow (n := 10) a hb) hne⟩
  unfold cl
  rw [Bool.and_eq_true, cb_iff _ _ _ ha, cb_iff _ _ _ hb]
  exact ⟨⟨sub_and_left a b, by omega⟩, sub_and_right a b, by omega⟩
theorem cl_iff (L : Int) (a b : Nat) (ha : a < 1024) (hb : b < 1024) : cl L a b = true ↔ (pc a : Int) - pc (a &&& b) ≤ L ∧ (pc b : Int) - pc (a &&& b) ≤ L := by
  unfold cl
  rw [Bool.and_eq_true, cb_iff _ _ _ ha, cb_iff _ _ _ hb]
  simp [sub_and_left, sub_and_right]
theorem cl_comm (L : Int) (a b : Nat) : cl L a b = cl L b a := by
  unfold cl; rw [Nat.and_comm, Bool.and_comm]
/-- The worn mark with the most strokes that can be both; -1 if there is none. -/
def bothV (L : Int) (a b : Nat) : Int := if cl L a b = true then ((a &&& b : Nat) : Int) else -1
theorem bothV_neg (L : Int) (a b : Nat) : bothV L a b < 0 ↔ cl L a b = false := by
  unfold bothV; split <;> simp_all <;> omega
end Go.Proofs.Ytlgdnbpboonhdaa
namespace Go.Proofs.Ytlgdnbpboonhdaa
open Go.RowKit
set_option linter.unusedVariables false
def BInv (L : Int) (a b k : Nat) (v : Int) : Prop :=
  (cl L a b = false → v = -1) ∧ (cl L a b = true → (a &&& b < k ∧ v = ((a &&& b : Nat) : Int)) ∨ (k ≤ a &&& b ∧ (v = -1 ∨ ∃ j : Nat, v = (j : Int) ∧ j < 1024 ∧ pc j < pc (a &&& b))))
theorem and_lt (a b : Nat) (hb : b < 1024) : a &&& b < 1024 := Nat.and_lt_two_pow (n := 10) a hb
theorem BInv.start (L : Int) (a b : Nat) : BInv L a b 0 (-1) := ⟨fun _ => rfl, fun _ => .inr ⟨Nat.zero_le _, .inl rfl⟩⟩
theorem BInv.shape {L : Int} {a b k : Nat} {v : Int} (hb : b < 1024) (h : BInv L a b k v) : v = -1 ∨ ∃ j : Nat, v = (j : Int) ∧ j < 1024 := by
  cases hc : cl L a b
  · exact .inl (h.1 hc)
  · rcases h.2 hc with ⟨-, h1⟩ | ⟨-, h1 | ⟨j, h1, h2, -⟩⟩
    · exact .inr ⟨_, h1, and_lt a b hb⟩
    · exact .inl h1
    · exact .inr ⟨j, h1, h2⟩
theorem BInv.no {L : Int} {a b k : Nat} {v : Int} (h : BInv L a b k v) (hp : cb L k a = false ∨ cb L k b = false) : BInv L a b (k + 1) v := by
  refine ⟨h.1, fun hc => ?_⟩
  rcases h.2 hc with ⟨h1, h2⟩ | ⟨h1, h2⟩
  · exact .inl ⟨by omega, h2⟩
  · refine .inr ⟨?_, h2⟩
    have : k ≠ a &&& b := by
      rintro rfl
      unfold cl at hc
      rw [Bool.and_eq_true] at hc
      rcases hp with hp | hp
      · rw [hc.1] at hp; cases hp
      · rw [hc.2] at hp; cases hp
    omega
theorem BInv.yes {L : Int} {a b k : Nat} (ha : a < 1024) (hb : b < 1024) (h1 : cb L k a = true) (h2 : cb L k b = true) : BInv L a b (k + 1) (k : Int) := by
  obtain ⟨h3, h4, h5⟩ := cl_of L k a b ha hb h1 h2
  refine ⟨fun h => (by rw [h3] at h; cases h), fun _ => ?_⟩
  by_cases hk : k = a &&& b
  · exact .inl ⟨by omega, by rw [← hk]⟩
  · have := and_lt a b hb
    exact .inr ⟨by omega, .inr ⟨k, rfl, by omega, h5 hk⟩⟩
theorem BInv.stay {L : Int} {a b k j : Nat} (ha : a < 1024) (hb : b < 1024) (h1 : cb L k a = true) (h2 : cb L k b = true) (h : BInv L a b k (j : Int)) (hj : ¬ pc j < pc k) : BInv L a b (k + 1) (j : Int) := by
  obtain ⟨h3, h4, h5⟩ := cl_of L k a b ha hb h1 h2
  refine ⟨fun h => (by rw [h3] at h; cases h), fun hc => ?_⟩
  rcases h.2 hc with ⟨h6, h7⟩ | ⟨h6, h7⟩
  · omega
  · refine .inr ⟨?_, h7⟩
    have : k ≠ a &&& b := by
      rintro rfl
      rcases h7 with h7 | ⟨j', h7, -, h8⟩
      · omega
      · have : j = j' := by omega
        subst this; exact hj h8
    omega
theorem BInv.done {L : Int} {a b : Nat} {v : Int} (h : BInv L a b (a + 1) v) : v = bothV L a b := by
  unfold bothV
  split
  · next hc =>
    rcases h.2 hc with ⟨-, h1⟩ | ⟨h1, -⟩
    · exact h1
    · have : a &&& b ≤ a := Nat.and_le_left
      omega
  · next hc => exact h.1 (by simpa using hc)
set_option maxRecDepth 100000 in
theorem both64 (a b : Nat) (L : Int) (ha : a < 1024) (hb : b < 1024) (w : World) : Calls Try.prog 64 #[.int .i64 (a : Int), .int .i64 (b : Int), .int .i64 L] w fun e w' => e = .returned (.int .i64 (bothV L a b)) ∧ w = w' := by
  go_enter Try.func64, Try.ntmps64
  go_wp2
  go_loop [7, 8] (fun s i => ∃ (k : Nat) (v : Int), k ≤ a + 1 ∧ i = .int .i64 k ∧ s = .int .i64 v ∧ BInv L a b k v) (fun s i => a + 1 - (RowKit.intOf i).toNat)
  case atStart => exact ⟨0, -1, Nat.zero_le _, rfl, rfl, BInv.start L a b⟩
  case round =>
    obtain ⟨k, v, hk, rfl, rfl, hI⟩ := hrel
    by_cases hlt : k ≤ a
    · have HI := Lib.hid hI
      have hs := hI.shape hb
      clear hI
      have c1 := fun W => canBe42_any k a L (by omega) ha W
      have c2 := fun W => canBe42_any k b L (by omega) hb W
      cases p1 : cb L k a
      · rw [p1] at c1
        have HN := Lib.hid (HI.out.no (.inl p1))
        have C1 := Lib.hid c1; clear c1 c2 hs p1
        go_wp2_with fail
        refine (C1.out _).mono ?_
        rintro e w' ⟨rfl, rfl⟩
        go_wp2
        go_round
        case rel => exact ⟨k + 1, v, by omega, by go_num, rfl, HN.out⟩
        case measure => simp [RowKit.intOf]; omega
      · cases p2 : cb L k b
        · rw [p1] at c1; rw [p2] at c2
          have HN := Lib.hid (HI.out.no (.inr p2))
          have C1 := Lib.hid c1; have C2 := Lib.hid c2; clear c1 c2 hs p1 p2
          go_wp2_with fail
          refine (C1.out _).mono ?_
          rintro e w' ⟨rfl, rfl⟩
          go_wp2_with fail
          refine (C2.out _).mono ?_
          rintro e w' ⟨rfl, rfl⟩
          go_wp2
          go_round
          case rel => exact ⟨k + 1, v, by omega, by go_num, rfl, HN.out⟩
          case measure => simp [RowKit.intOf]; omega
        · rw [p1] at c1; rw [p2] at c2
          have HY := Lib.hid (BInv.yes (k := k) ha hb p1 p2)
          rcases hs with rfl | ⟨j, rfl, hj⟩
          · have HN := HY
            have C1 := Lib.hid c1; have C2 := Lib.hid c2; clear c1 c2 p1 p2
            go_wp2_with fail
            refine (C1.out _).mono ?_
            rintro e w' ⟨rfl, rfl⟩
            go_wp2_with fail
            refine (C2.out _).mono ?_
            rintro e w' ⟨rfl, rfl⟩
            go_wp2
            go_round
            case rel => exact ⟨k + 1, (k : Int), by omega, by go_num, rfl, HN.out⟩
            case measure => simp [RowKit.intOf]; omega
          · have s1 := fun W => size_any k (by omega) W
            have s2 := fun W => size_any j hj W
            have S1 := Lib.hid s1; have S2 := Lib.hid s2
            by_cases hg : pc j < pc k
            · have HN := HY
              have C1 := Lib.hid c1; have C2 := Lib.hid c2; clear c1 c2 p1 p2 s1 s2
              go_wp2_with fail
              refine (C1.out _).mono ?_
              rintro e w' ⟨rfl, rfl⟩
              go_wp2_with fail
              refine (C2.out _).mono ?_
              rintro e w' ⟨rfl, rfl⟩
              go_wp2_with fail
              refine (S1.out _).mono ?_
              rintro e w' ⟨rfl, rfl⟩
              go_wp2_with fail
              refine (S2.out _).mono ?_
              rintro e w' ⟨rfl, rfl⟩
              go_wp2
              go_round
              case rel => exact ⟨k + 1, (k : Int), by omega, by go_num, rfl, HN.out⟩
              case measure => simp [RowKit.intOf]; omega
            · have HN := Lib.hid (HI.out.stay ha hb p1 p2 hg)
              have C1 := Lib.hid c1; have C2 := Lib.hid c2; clear c1 c2 p1 p2 s1 s2
              go_wp2_with fail
              refine (C1.out _).mono ?_
              rintro e w' ⟨rfl, rfl⟩
              go_wp2_with fail
              refine (C2.out _).mono ?_
              rintro e w' ⟨rfl, rfl⟩
              go_wp2_with fail
              refine (S1.out _).mono ?_
              rintro e w' ⟨rfl, rfl⟩
              go_wp2_with fail
              refine (S2.out _).mono ?_
              rintro e w' ⟨rfl, rfl⟩
              go_wp2
              go_round
              case rel => exact ⟨k + 1, (j : Int), by omega, by go_num, rfl, HN.out⟩
              case measure => simp [RowKit.intOf]; omega
    · have : k = a + 1 := by omega
      subst this
      go_wp2
      go_ret
      exact ⟨ret_int hI.done, rfl⟩
end Go.Proofs.Ytlgdnbpboonhdaa
namespace Go.Proofs.Ytlgdnbpboonhdaa
open Go.RowKit
set_option linter.unusedVariables false
def clP (L : Int) (ms : List Nat) (p : Nat × Nat) : Bool := cl L (mAt ms p.1) (mAt ms p.2)
def apL (L : Int) (ms : List Nat) : Option (Nat × Nat) := (pairsL ms.length).find? (clP L ms)
def apV : Option (Nat × Nat) → Int × Int
  | none => (-1, -1)
  | some p => (p.1, p.2)
theorem pairs_prefix (n i k : Nat) (hi : i < n) (hk : k ≤ n) : rowsTo n i ++ rowTo i k <+: pairsL n := by
  have h1 := rowsTo_pre n (i + 1) n (by omega)
  rw [rowsTo_succ] at h1
  exact ((List.prefix_append_right_inj _).2 (rowTo_pre i k n hk)).trans h1
theorem find_prefix {α : Type} {f : α → Bool} {l m : List α} {x : α} (h : l <+: m) (hf : l.find? f = some x) : m.find? f = some x := by
  obtain ⟨r, rfl⟩ := h
  rw [List.find?_append, hf]; rfl
theorem mAt_of {ms : List Nat} {i m : Nat} (h : ms[i]? = some m) : mAt ms i = m := by unfold mAt; rw [h]; rfl
set_option maxRecDepth 100000 in
theorem areApart68 (ms : List Nat) (L : Int) (v : Value) (w : World) (hr : Reads w v (ints ms)) (hm : ∀ m ∈ ms, m < 1024) :
    Calls Try.prog 68 #[v, .int .i64 L] w fun e w' => e = .returned (.tuple #[.int .i64 (apV (apL L ms)).1, .int .i64 (apV (apL L ms)).2]) ∧ Ext w w' := by
  obtain ⟨hl, a, cap, rfl⟩ := hr.shape
  rw [ints_length] at hr hl ⊢
  have HR := Lib.hid hr; have HM := Lib.hid hm; clear hr hm
  obtain ⟨n, hn⟩ : ∃ n, n = ms.length := ⟨_, rfl⟩
  rw [← hn] at hl HR ⊢
  have HN := Lib.hid hn; clear hn
  go_enter Try.func68, Try.ntmps68
  go_wp2
  go_loopw [6] (fun i wr => ∃ j : Nat, j ≤ n ∧ i = .int .i64 (j : Int) ∧ Hid (Ext w wr) ∧ Hid ((rowsTo n j).find? (clP L ms) = none)) (fun i wr => n - (RowKit.intOf i).toNat)
  case atStart => exact ⟨0, Nat.zero_le _, rfl, Ext.refl _, (rfl : _ = _)⟩
  case round =>
    obtain ⟨j, hj, rfl, hE, hF⟩ := hrel
    by_cases hlt : j < n
    · go_wp2
      go_loopw [7] (fun i wr2 => ∃ k : Nat, j + 1 ≤ k ∧ k ≤ n ∧ i = .int .i64 (k : Int) ∧ Hid (Ext w wr2) ∧ Hid ((rowsTo n j ++ rowTo j k).find? (clP L ms) = none)) (fun i wr2 => n - (RowKit.intOf i).toNat)
      case atStart => exact ⟨j + 1, Nat.le_refl _, hlt, by go_num, hE.out, (by rw [rowTo_first, List.append_nil]; exact hF.out : _ = _)⟩
      case round =>
        obtain ⟨k, hk1, hk2, rfl, hE2, hF2⟩ := hrel
        by_cases hkn : k < n
        · obtain ⟨b, off, y1, rfl, hy1, hc1⟩ := (HR.out.ext hE2.out).at (k := j) (by rw [ints_length, ← HN.out]; exact hlt)
          obtain ⟨m1, hm1, rfl⟩ := ints_get hy1
          obtain ⟨b', off', y2, hbo, hy2, hc2⟩ := (HR.out.ext hE2.out).at (k := k) (by rw [ints_length, ← HN.out]; exact hkn)
          cases hbo
          obtain ⟨m2, hm2, rfl⟩ := ints_get hy2
          have h1 := HM.out m1 (List.mem_of_getElem? hm1)
          have h2 := HM.out m2 (List.mem_of_getElem? hm2)
          have hcp : clP L ms (j, k) = cl L m1 m2 := by unfold clP; rw [mAt_of hm1, mAt_of hm2]
          have hf1 : (rowsTo n j ++ rowTo j (k + 1)).find? (clP L ms) = if cl L m1 m2 = true then some (j, k) else none := by
            rw [rowTo_succ _ _ hk1, ← List.append_assoc, List.find?_append, hF2.out, List.find?_cons, hcp]
            cases cl L m1 m2 <;> rfl
          have HF1 := Lib.hid hf1
          clear hy1 hy2 hm1 hm2 hcp hf1
          have hka : (0 : Int) ≤ (k : Int) := by omega
          have hkb : (k : Int) < (n : Int) := by omega
          have hja : (0 : Int) ≤ (j : Int) := by omega
          have hjb : (j : Int) < (n : Int) := by omega
          have h64 : ∀ W, Calls Try.prog 64 #[.int .i64 (m1 : Int), .int .i64 (m2 : Int), .int .i64 L] W fun e w' => e = .returned (.int .i64 (bothV L m1 m2)) ∧ w' = W := fun W => (both64 m1 m2 L h1 h2 W).mono fun e w' ⟨h1, h2⟩ => ⟨h1, h2.symm⟩
          cases hc : cl L m1 m2
          · have hv : bothV L m1 m2 = -1 := by unfold bothV; rw [hc]; rfl
            rw [hv] at h64
            have HF3 := Lib.hid (show (rowsTo n j ++ rowTo j (k + 1)).find? (clP L ms) = none from by rw [HF1.out, hc]; rfl)
            have H64 := Lib.hid h64; clear h64 hv hc
            go_wp2
            go_quiet ((go_at_call 64; exact Calls.quiet_of_same (H64.out _)))
            go_wp2
            go_roundw
            case rel => exact ⟨k + 1, by omega, by omega, by go_num, (hE2.out.drewN _ : Ext _ _), (HF3.out : _ = _)⟩
            case measure => simp [RowKit.intOf]; omega
          · have hv : bothV L m1 m2 = ((m1 &&& m2 : Nat) : Int) := by unfold bothV; rw [hc]; rfl
            rw [hv] at h64
            generalize m1 &&& m2 = sh at *
            have HF3 := Lib.hid (show apL L ms = some (j, k) from find_prefix (by rw [← HN.out]; exact pairs_prefix n j (k + 1) hlt (by omega)) (by rw [HF1.out, hc]; rfl))
            have H64 := Lib.hid h64; clear h64 hv hc
            go_wp2
            go_quiet ((go_at_call 64; exact Calls.quiet_of_same (H64.out _)))
            go_wp2
            go_ret2
            exact ⟨by rw [HF3.out]; rfl, (hE2.out.drewN _ : Ext _ _)⟩
        · obtain rfl : k = n := by omega
          go_wp2
          go_roundw
          case rel => exact ⟨j + 1, by omega, by go_num, hE2.out, (by rw [rowsTo_succ]; exact hF2.out : _ = _)⟩
          case measure => simp [RowKit.intOf]; omega
    · obtain rfl : j = n := by omega
      have HF3 := Lib.hid (show apL L ms = none from by unfold apL pairsL; rw [← HN.out]; exact hF.out)
      go_wp2
      go_ret2
      exact ⟨by rw [HF3.out]; rfl, hE.out⟩
end Go.Proofs.Ytlgdnbpboonhdaa
namespace Go.Proofs.Ytlgdnbpboonhdaa
open Go.RowKit
set_option linter.unusedVariables false
theorem mAt_lt {S L : Nat} {ms : List Nat} (hv : Valid S L ms) (i : Nat) : mAt ms i < 1024 := by
  unfold mAt
  cases h : ms[i]? with
  | none => simp
  | some m => exact hv.lt h
theorem clP_clB {S L L2 : Nat} {ms : List Nat} (hv : Valid S L ms) (p : Nat × Nat) : clP L2 ms p = clB ms L2 p := by
  unfold clP clB dA dB
  have h1 := pc_dif _ _ (sub_and_left (mAt ms p.1) (mAt ms p.2))
  have h2 := pc_dif _ _ (sub_and_right (mAt ms p.1) (mAt ms p.2))
  rw [Bool.eq_iff_iff, cl_iff _ _ _ (mAt_lt hv _) (mAt_lt hv _), decide_eq_true_iff]
  omega
theorem apL_clash1 {S L L2 : Nat} {ms : List Nat} (hv : Valid S L ms) : apL L2 ms = clash1 ms L2 := by
  unfold apL clash1
  rw [show clP L2 ms = clB ms L2 from funext fun p => clP_clB hv p]
theorem pairs_mem (n i k : Nat) (h1 : i < k) (h2 : k < n) : (i, k) ∈ pairsL n := by
  have := (pairs_prefix n i (k + 1) (by omega) (by omega)).subset
  apply this
  rw [rowTo_succ _ _ (by omega)]
  simp
theorem bothV_comm (L : Int) (a b : Nat) : bothV L a b = bothV L b a := by
  unfold bothV; rw [cl_comm, Nat.and_comm]
theorem clash2_both {S L i k : Nat} {ms : List Nat} (hv : Valid S L ms) (hi : i < ms.length) (hk : k < ms.length) (hne : i ≠ k) :
    clashV (clash2 ms L i k) = if bothV L (mAt ms i) (mAt ms k) < 0 then (0, 5) else (bothV L (mAt ms i) (mAt ms k), 0) := by
  have key : ∀ i k : Nat, i < k → k < ms.length → clashV (clF ms L (pairsL ms.length) (i, k)) = if bothV L (mAt ms i) (mAt ms k) < 0 then (0, 5) else (bothV L (mAt ms i) (mAt ms k), 0) := by
    intro i k h1 h2
    have hp := pairs_mem _ _ _ h1 h2
    have hc := clP_clB (L2 := L) hv (i, k)
    unfold clF
    rw [← hc]
    unfold clP bothV shA
    simp only [hp, true_and]
    cases cl L (mAt ms i) (mAt ms k)
    · simp [clashV]
    · simp only [if_true, clashV]
      rw [if_neg (by omega)]
  unfold clash2
  by_cases h : i < k
  · rw [Nat.min_eq_left (by omega), Nat.max_eq_right (by omega)]; exact key i k h hk
  · rw [Nat.min_eq_right (by omega), Nat.max_eq_left (by omega), bothV_comm]; exact key k i (by omega) hi
set_option maxRecDepth 100000 in
theorem clash25_err (S L i k : Int) (xs : List Int) (v : Value) (w : World) (hr : Reads w v xs) (hc : chk S L xs ≠ 0) :
    Calls Try.prog 25 #[.agg #[.int .i64 S, .int .i64 L, v], .int .i64 i, .int .i64 k] w fun e w' => e = .returned (.tuple #[.int .i64 0, .int .i64 (chk S L xs)]) ∧ Ext w w' := by
  obtain ⟨hl, a, cap, rfl⟩ := hr.shape
  have E0 := Lib.hid ((Ext.refl w).alloc (.cells #[.int .i64 S, .int .i64 L, .slice a xs.length cap] 24))
  have P0 := Lib.hid (OffAt.new w (.int .i64 S) (.int .i64 L) (.slice a xs.length cap) 24)
  have HR := Lib.hid hr; clear hr
  obtain ⟨c, hc'⟩ : ∃ c, c = chk S L xs := ⟨_, rfl⟩
  rw [← hc'] at hc ⊢
  have HC := Lib.hid hc'; clear hc'
  have hd : (c != 0) = true := by simpa using hc
  clear hc
  go_enter Try.func25, Try.ntmps25
  go_wp2_with fail
  refine (check22 _ _ _ xs _ (HR.out.ext E0.out)).mono ?_
  rintro e w1 ⟨rfl, hb⟩
  obtain ⟨g1, g2, g3⟩ := P0.out.ext hb
  have HB := Lib.hid (E0.out.trans hb); clear hb
  rw [← HC.out]
  go_wp2_with fail
  refine (check22 _ _ _ xs _ (HR.out.ext HB.out)).mono ?_
  rintro e w2 ⟨rfl, hb⟩
  replace HB := Lib.hid (HB.out.trans hb); clear hb
  rw [← HC.out]
  go_wp2
  go_ret2
  exact ⟨rfl, HB.out⟩
set_option maxRecDepth 100000 in
theorem apart27_err (S L : Int) (xs : List Int) (v : Value) (w : World) (hr : Reads w v xs) (hc : chk S L xs ≠ 0) :
    Calls Try.prog 27 #[.agg #[.int .i64 S, .int .i64 L, v]] w fun e w' => e = .returned (.tuple #[.int .i64 0, .int .i64 0, .int .i64 (chk S L xs)]) ∧ Ext w w' := by
  obtain ⟨hl, a, cap, rfl⟩ := hr.shape
  have E0 := Lib.hid ((Ext.refl w).alloc (.cells #[.int .i64 S, .int .i64 L, .slice a xs.length cap] 24))
  have P0 := Lib.hid (OffAt.new w (.int .i64 S) (.int .i64 L) (.slice a xs.length cap) 24)
  have HR := Lib.hid hr; clear hr
  obtain ⟨c, hc'⟩ : ∃ c, c = chk S L xs := ⟨_, rfl⟩
  rw [← hc'] at hc ⊢
  have HC := Lib.hid hc'; clear hc'
  have hd : (c != 0) = true := by simpa using hc
  clear hc
  go_enter Try.func27, Try.ntmps27
  go_wp2_with fail
  refine (check22 _ _ _ xs _ (HR.out.ext E0.out)).mono ?_
  rintro e w1 ⟨rfl, hb⟩
  obtain ⟨g1, g2, g3⟩ := P0.out.ext hb
  have HB := Lib.hid (E0.out.trans hb); clear hb
  rw [← HC.out]
  go_wp2_with fail
  refine (check22 _ _ _ xs _ (HR.out.ext HB.out)).mono ?_
  rintro e w2 ⟨rfl, hb⟩
  replace HB := Lib.hid (HB.out.trans hb); clear hb
  rw [← HC.out]
  go_wp2
  go_ret3
  exact ⟨rfl, HB.out⟩
set_option maxRecDepth 100000 in
theorem margin29_err (S L : Int) (xs : List Int) (v : Value) (w : World) (hr : Reads w v xs) (hc : chk S L xs ≠ 0) :
    Calls Try.prog 29 #[.agg #[.int .i64 S, .int .i64 L, v]] w fun e w' => e = .returned (.tuple #[.int .i64 0, .int .i64 (chk S L xs)]) ∧ Ext w w' := by
  obtain ⟨hl, a, cap, rfl⟩ := hr.shape
  have E0 := Lib.hid ((Ext.refl w).alloc (.cells #[.int .i64 S, .int .i64 L, .slice a xs.length cap] 24))
  have P0 := Lib.hid (OffAt.new w (.int .i64 S) (.int .i64 L) (.slice a xs.length cap) 24)
  have HR := Lib.hid hr; clear hr
  obtain ⟨c, hc'⟩ : ∃ c, c = chk S L xs := ⟨_, rfl⟩
  rw [← hc'] at hc ⊢
  have HC := Lib.hid hc'; clear hc'
  have hd : (c != 0) = true := by simpa using hc
  clear hc
  go_enter Try.func29, Try.ntmps29
  go_wp2_with fail
  refine (check22 _ _ _ xs _ (HR.out.ext E0.out)).mono ?_
  rintro e w1 ⟨rfl, hb⟩
  obtain ⟨g1, g2, g3⟩ := P0.out.ext hb
  have HB := Lib.hid (E0.out.trans hb); clear hb
  rw [← HC.out]
  go_wp2_with fail
  refine (check22 _ _ _ xs _ (HR.out.ext HB.out)).mono ?_
  rintro e w2 ⟨rfl, hb⟩
  replace HB := Lib.hid (HB.out.trans hb); clear hb
  rw [← HC.out]
  go_wp2
  go_ret2
  exact ⟨rfl, HB.out⟩
end Go.Proofs.Ytlgdnbpboonhdaa
namespace Go.Proofs.Ytlgdnbpboonhdaa
open Go.RowKit
set_option linter.unusedVariables false
set_option maxRecDepth 100000 in
theorem clash25_arg (S L : Nat) (i k : Int) (ms : List Nat) (v : Value) (w : World) (hv : Valid S L ms) (hr : Reads w v (ints ms)) (hi : ¬ ((0 ≤ i ∧ i < ms.length) ∧ 0 ≤ k ∧ k < ms.length)) :
    Calls Try.prog 25 #[.agg #[.int .i64 (S : Int), .int .i64 (L : Int), v], .int .i64 i, .int .i64 k] w fun e w' => e = .returned (.tuple #[.int .i64 0, .int .i64 2]) ∧ Ext w w' := by
  obtain ⟨hl, a, cap, rfl⟩ := hr.shape
  rw [ints_length] at hr hl ⊢
  have E0 := Lib.hid ((Ext.refl w).alloc (.cells #[.int .i64 (S : Int), .int .i64 (L : Int), .slice a ms.length cap] 24))
  have P0 := Lib.hid (OffAt.new w (.int .i64 (S : Int)) (.int .i64 (L : Int)) (.slice a ms.length cap) 24)
  have HR := Lib.hid hr; clear hr
  have HC := Lib.hid (chk_ok hv); clear hv
  obtain ⟨x, hx⟩ : ∃ x, x = decide (0 ≤ i ∧ i < (ms.length : Int)) := ⟨_, rfl⟩
  obtain ⟨y, hy⟩ : ∃ y, y = decide (0 ≤ k ∧ k < (ms.length : Int)) := ⟨_, rfl⟩
  have hxy : x = false ∨ (x = true ∧ y = false) := by
    cases x
    · exact .inl rfl
    · cases y
      · exact .inr ⟨rfl, rfl⟩
      · have h1 := of_decide_eq_true hx.symm; have h2 := of_decide_eq_true hy.symm
        exact absurd ⟨h1, h2⟩ hi
  have h63 := fun W => isOwner63 (S : Int) (L : Int) i a ms.length cap W hl
  have h63k := fun W => isOwner63 (S : Int) (L : Int) k a ms.length cap W hl
  rw [← hx] at h63
  rw [← hy] at h63k
  have H63 := Lib.hid h63; have H63k := Lib.hid h63k
  clear hi hx hy h63 h63k
  rcases hxy with rfl | ⟨rfl, rfl⟩
  · go_enter Try.func25, Try.ntmps25
    go_wp2_with fail
    refine (check22 _ _ _ (ints ms) _ (HR.out.ext E0.out)).mono ?_
    rintro e w1 ⟨rfl, hb⟩
    obtain ⟨g1, g2, g3⟩ := P0.out.ext hb
    have HB := Lib.hid (E0.out.trans hb); clear hb
    rw [HC.out]
    go_wp2_with fail
    refine (H63.out _).mono ?_
    rintro e w2 ⟨rfl, hb⟩
    replace HB := Lib.hid (HB.out.trans hb); clear hb
    go_wp2
    go_ret2
    exact ⟨rfl, HB.out⟩
  · go_enter Try.func25, Try.ntmps25
    go_wp2_with fail
    refine (check22 _ _ _ (ints ms) _ (HR.out.ext E0.out)).mono ?_
    rintro e w1 ⟨rfl, hb⟩
    obtain ⟨g1, g2, g3⟩ := P0.out.ext hb
    have HB := Lib.hid (E0.out.trans hb); clear hb
    rw [HC.out]
    go_wp2_with fail
    refine (H63.out _).mono ?_
    rintro e w2 ⟨rfl, hb⟩
    obtain ⟨g1, g2, g3⟩ := OffAt.ext ⟨g1, g2, g3⟩ hb
    replace HB := Lib.hid (HB.out.trans hb); clear hb
    go_wp2_with fail
    refine (H63k.out _).mono ?_
    rintro e w3 ⟨rfl, hb⟩
    replace HB := Lib.hid (HB.out.trans hb); clear hb
    go_wp2
    go_ret2
    exact ⟨rfl, HB.out⟩
set_option maxRecDepth 100000 in
set_option maxHeartbeats 2000000 in
theorem clash25_ok (S L i k : Nat) (ms : List Nat) (v : Value) (w : World) (hv : Valid S L ms) (hr : Reads w v (ints ms)) (hi : i < ms.length) (hk : k < ms.length) :
    Calls Try.prog 25 #[.agg #[.int .i64 (S : Int), .int .i64 (L : Int), v], .int .i64 (i : Int), .int .i64 (k : Int)] w fun e w' =>
      e = .returned (if i = k then .tuple #[.int .i64 0, .int .i64 16] else if bothV L (mAt ms i) (mAt ms k) < 0 then .tuple #[.int .i64 0, .int .i64 5] else .tuple #[.int .i64 (bothV L (mAt ms i) (mAt ms k)), .int .i64 0]) ∧ Ext w w' := by
  obtain ⟨hl, a, cap, rfl⟩ := hr.shape
  rw [ints_length] at hr hl ⊢
  have E0 := Lib.hid ((Ext.refl w).alloc (.cells #[.int .i64 (S : Int), .int .i64 (L : Int), .slice a ms.length cap] 24))
  have P0 := Lib.hid (OffAt.new w (.int .i64 (S : Int)) (.int .i64 (L : Int)) (.slice a ms.length cap) 24)
  obtain ⟨m1, hm1⟩ := get_some hi
  obtain ⟨m2, hm2⟩ := get_some hk
  have hl1 := hv.lt hm1
  have hl2 := hv.lt hm2
  rw [mAt_of hm1, mAt_of hm2]
  have HC := Lib.hid (chk_ok hv); clear hv
  have h63 := fun W => isOwner63 (S : Int) (L : Int) (i : Int) a ms.length cap W hl
  have h63k := fun W => isOwner63 (S : Int) (L : Int) (k : Int) a ms.length cap W hl
  rw [show decide (0 ≤ (i : Int) ∧ (i : Int) < (ms.length : Int)) = true from decide_eq_true (by omega)] at h63
  rw [show decide (0 ≤ (k : Int) ∧ (k : Int) < (ms.length : Int)) = true from decide_eq_true (by omega)] at h63k
  have H63 := Lib.hid h63; have H63k := Lib.hid h63k
  clear h63 h63k
  have hia : (0 : Int) ≤ (i : Int) := by omega
  have hib : (i : Int) < (ms.length : Int) := by omega
  have hka : (0 : Int) ≤ (k : Int) := by omega
  have hkb : (k : Int) < (ms.length : Int) := by omega
  obtain ⟨b, off, rfl, -, -⟩ := hr.atN hm1
  have HR := Lib.hid hr; clear hr
  have HM1 := Lib.hid hm1; have HM2 := Lib.hid hm2; clear hm1 hm2
  have h64 : ∀ W, Calls Try.prog 64 #[.int .i64 (m1 : Int), .int .i64 (m2 : Int), .int .i64 (L : Int)] W fun e w' => e = .returned (.int .i64 (bothV L m1 m2)) ∧ w' = W := fun W => (both64 m1 m2 L hl1 hl2 W).mono fun e w' ⟨h1, h2⟩ => ⟨h1, h2.symm⟩
  generalize bothV L m1 m2 = bv at *
  have H64 := Lib.hid h64; clear h64
  by_cases hne : i = k
  · subst hne
    rw [if_pos rfl]
    go_enter Try.func25, Try.ntmps25
    go_wp2_with fail
    refine (check22 _ _ _ (ints ms) _ (HR.out.ext E0.out)).mono ?_
    rintro e w1 ⟨rfl, hb⟩
    obtain ⟨g1, g2, g3⟩ := P0.out.ext hb
    have HB := Lib.hid (E0.out.trans hb); clear hb
    rw [HC.out]
    go_wp2_with fail
    refine (H63.out _).mono ?_
    rintro e w2 ⟨rfl, hb⟩
    obtain ⟨g1, g2, g3⟩ := OffAt.ext ⟨g1, g2, g3⟩ hb
    replace HB := Lib.hid (HB.out.trans hb); clear hb
    go_wp2_with fail
    refine (H63k.out _).mono ?_
    rintro e w3 ⟨rfl, hb⟩
    replace HB := Lib.hid (HB.out.trans hb); clear hb
    go_wp2
    go_ret2
    exact ⟨rfl, HB.out⟩
  · rw [if_neg hne]
    have hne2 : ((i : Int) == (k : Int)) = false := by simp; omega
    by_cases hbv : bv < 0
    all_goals
      first | rw [if_pos hbv] | rw [if_neg hbv]
      go_enter Try.func25, Try.ntmps25
      go_wp2_with fail
      refine (check22 _ _ _ (ints ms) _ (HR.out.ext E0.out)).mono ?_
      rintro e w1 ⟨rfl, hb⟩
      obtain ⟨g1, g2, g3⟩ := P0.out.ext hb
      have HB := Lib.hid (E0.out.trans hb); clear hb
      rw [HC.out]
      go_wp2_with fail
      refine (H63.out _).mono ?_
      rintro e w2 ⟨rfl, hb⟩
      obtain ⟨g1, g2, g3⟩ := OffAt.ext ⟨g1, g2, g3⟩ hb
      replace HB := Lib.hid (HB.out.trans hb); clear hb
      go_wp2_with fail
      refine (H63k.out _).mono ?_
      rintro e w3 ⟨rfl, hb⟩
      obtain ⟨g1, g2, g3⟩ := OffAt.ext ⟨g1, g2, g3⟩ hb
      replace HB := Lib.hid (HB.out.trans hb); clear hb
      obtain ⟨b1, off1, hbo, -, c1⟩ := (HR.out.ext HB.out).atN HM1.out
      cases hbo
      obtain ⟨b2, off2, hbo, -, c2⟩ := (HR.out.ext HB.out).atN HM2.out
      cases hbo
      go_wp2
      go_quiet ((go_at_call 64; exact Calls.quiet_of_same (H64.out _)))
      go_wp2
      go_ret2
      exact ⟨rfl, (HB.out.drewN _ : Ext _ _)⟩
end Go.Proofs.Ytlgdnbpboonhdaa
namespace Go.Proofs.Ytlgdnbpboonhdaa
open Go.RowKit
set_option linter.unusedVariables false
set_option maxRecDepth 100000 in
set_option maxHeartbeats 2000000 in
theorem apart27_ok (S L : Nat) (ms : List Nat) (v : Value) (w : World) (hv : Valid S L ms) (hr : Reads w v (ints ms)) :
    Calls Try.prog 27 #[.agg #[.int .i64 (S : Int), .int .i64 (L : Int), v]] w fun e w' => e = .returned (.tuple #[.int .i64 (apart3 (clash1 ms L)).1, .int .i64 (apart3 (clash1 ms L)).2.1, .int .i64 (apart3 (clash1 ms L)).2.2]) ∧ Ext w w' := by
  obtain ⟨hl, a, cap, rfl⟩ := hr.shape
  rw [ints_length] at hr hl ⊢
  have E0 := Lib.hid ((Ext.refl w).alloc (.cells #[.int .i64 (S : Int), .int .i64 (L : Int), .slice a ms.length cap] 24))
  have P0 := Lib.hid (OffAt.new w (.int .i64 (S : Int)) (.int .i64 (L : Int)) (.slice a ms.length cap) 24)
  have HR := Lib.hid hr; clear hr
  have h68 := fun W (hW : Ext w W) => areApart68 ms (L : Int) _ W (HR.out.ext hW) (fun m hm => by obtain ⟨i, h⟩ := List.getElem?_of_mem hm; exact hv.lt h)
  rw [apL_clash1 hv] at h68
  have HC := Lib.hid (chk_ok hv); clear hv
  cases hc : clash1 ms L with
  | none =>
    rw [hc] at h68
    have H68 := Lib.hid h68; clear h68
    simp only [apart3]
    go_enter Try.func27, Try.ntmps27
    go_wp2_with fail
    refine (check22 _ _ _ (ints ms) _ (HR.out.ext E0.out)).mono ?_
    rintro e w1 ⟨rfl, hb⟩
    obtain ⟨g1, g2, g3⟩ := P0.out.ext hb
    have HB := Lib.hid (E0.out.trans hb); clear hb
    rw [HC.out]
    go_wp2_with fail
    refine (H68.out _ HB.out).mono ?_
    rintro e w2 ⟨rfl, hb⟩
    replace HB := Lib.hid (HB.out.trans hb); clear hb
    simp only [apV]
    go_wp2
    go_ret3
    exact ⟨rfl, HB.out⟩
  | some p =>
    obtain ⟨i, k⟩ := p
    rw [hc] at h68
    have H68 := Lib.hid h68; clear h68
    simp only [apart3]
    go_enter Try.func27, Try.ntmps27
    go_wp2_with fail
    refine (check22 _ _ _ (ints ms) _ (HR.out.ext E0.out)).mono ?_
    rintro e w1 ⟨rfl, hb⟩
    obtain ⟨g1, g2, g3⟩ := P0.out.ext hb
    have HB := Lib.hid (E0.out.trans hb); clear hb
    rw [HC.out]
    go_wp2_with fail
    refine (H68.out _ HB.out).mono ?_
    rintro e w2 ⟨rfl, hb⟩
    replace HB := Lib.hid (HB.out.trans hb); clear hb
    simp only [apV]
    go_wp2
    go_ret3
    exact ⟨rfl, HB.out⟩
set_option maxRecDepth 100000 in
set_option maxHeartbeats 2000000 in
theorem margin29_ok (S L : Nat) (ms : List Nat) (v : Value) (w : World) (hv : Valid S L ms) (hr : Reads w v (ints ms)) :
    Calls Try.prog 29 #[.agg #[.int .i64 (S : Int), .int .i64 (L : Int), v]] w fun e w' => e = .returned (.tuple #[.int .i64 (marginL S ms (pairsL ms.length)), .int .i64 0]) ∧ Ext w w' := by
  obtain ⟨hl, a, cap, rfl⟩ := hr.shape
  rw [ints_length] at hr hl ⊢
  have E0 := Lib.hid ((Ext.refl w).alloc (.cells #[.int .i64 (S : Int), .int .i64 (L : Int), .slice a ms.length cap] 24))
  have P0 := Lib.hid (OffAt.new w (.int .i64 (S : Int)) (.int .i64 (L : Int)) (.slice a ms.length cap) 24)
  have HR := Lib.hid hr; clear hr
  have h68 := fun (L2 : Nat) W (hW : Ext w W) => areApart68 ms (L2 : Int) _ W (HR.out.ext hW) (fun m hm => by obtain ⟨i, h⟩ := List.getElem?_of_mem hm; exact hv.lt h)
  have h68 := fun (L2 : Nat) W (hW : Ext w W) => (apL_clash1 (L2 := L2) hv ▸ h68 L2 W hW)
  have H68 := Lib.hid h68; clear h68
  have HAP := Lib.hid (fun L2 (h : L2 ≤ S) => apart_margin S L2 ms h)
  have HBD := Lib.hid (marginL_bd S ms (pairsL ms.length) hv.2.1)
  have HTOP := Lib.hid (((le_margin S ms (pairsL ms.length) _).1 (Int.le_refl _)).1)
  have hS := hv.2.1
  have HC := Lib.hid (chk_ok hv); clear hv
  obtain ⟨mm, hmm⟩ : ∃ mm, mm = marginL S ms (pairsL ms.length) := ⟨_, rfl⟩
  rw [← hmm] at HAP HBD HTOP ⊢
  clear hmm
  go_enter Try.func29, Try.ntmps29
  go_wp2_with fail
  refine (check22 _ _ _ (ints ms) _ (HR.out.ext E0.out)).mono ?_
  rintro e w1 ⟨rfl, hb⟩
  obtain ⟨g1, g2, g3⟩ := P0.out.ext hb
  have P1 := Lib.hid (P0.out.ext hb)
  have HB := Lib.hid (E0.out.trans hb); clear hb
  rw [HC.out]
  go_wp2_with fail
  go_loopw [4] (fun i wr => ∃ j : Nat, j ≤ S + 1 ∧ i = .int .i64 ((j : Int) - 1) ∧ Hid (Ext w1 wr) ∧ Hid (mm ≤ (j : Int) - 1)) (fun i wr => (RowKit.intOf i + 1).toNat)
  case atStart => exact ⟨S + 1, Nat.le_refl _, by go_num, Ext.refl _, (by have := HTOP.out; omega : _ ≤ _)⟩
  case round =>
    obtain ⟨j, hj, rfl, hE, hM⟩ := hrel
    obtain ⟨g1, g2, g3⟩ := P1.out.ext hE.out
    cases j with
    | zero =>
      have hmm : mm = -1 := by have := hM.out; have := HBD.out; omega
      have HMM := Lib.hid hmm; clear hmm
      go_wp2
      go_ret2
      exact ⟨by rw [HMM.out]; rfl, HB.out.trans hE.out⟩
    | succ j =>
      rw [show ((j + 1 : Nat) : Int) - 1 = (j : Int) from by omega] at *
      have hap := HAP.out j (by omega)
      have h68 := H68.out j wr (HB.out.trans hE.out)
      cases hc : clash1 ms j with
      | none =>
        have hmj : mm = (j : Int) := by have := hM.out; have := hap.1 hc; omega
        rw [hc] at h68
        have HMJ := Lib.hid hmj; have HH := Lib.hid h68; clear hmj h68 hap hc
        go_wp2_with fail
        refine HH.out.mono ?_
        rintro e w2 ⟨rfl, hb⟩
        have HE2 := Lib.hid (hE.out.trans hb); clear hb
        simp only [apV]
        go_wp2
        go_ret2
        exact ⟨by rw [HMJ.out]; rfl, HB.out.trans HE2.out⟩
      | some p =>
        obtain ⟨x, y⟩ := p
        have hmj : mm < (j : Int) := by
          have h1 := hM.out
          have h2 : ¬ (j : Int) ≤ mm := fun h => by rw [hap.2 h] at hc; cases hc
          omega
        rw [hc] at h68
        have HMJ := Lib.hid hmj; have HH := Lib.hid h68; clear hmj h68 hap hc
        go_wp2_with fail
        refine HH.out.mono ?_
        rintro e w2 ⟨rfl, hb⟩
        have HE2 := Lib.hid (hE.out.trans hb); clear hb
        simp only [apV]
        go_wp2
        go_roundw
        case rel => exact ⟨j, by omega, by go_num, HE2.out, (by have := HMJ.out; omega : _ ≤ _)⟩
        case measure => simp [RowKit.intOf]
end Go.Proofs.Ytlgdnbpboonhdaa
