/- Lists of cells, ponds, their errors: plain definitions, and what they say. -/
import Derived.Test.YtppjnpempgpkaaaGreatAA
namespace Go.Proofs.YtppjnpempgpkaaaGreat
set_option linter.unusedVariables false
set_option linter.unusedSimpArgs false
def tAt (t : List Int) (i : Nat) : Int := t.getD i 0
theorem tAt_get {xs : List Int} {i : Nat} (h : i < xs.length) : xs[i] = tAt xs i := by unfold tAt; rw [List.getD_eq_getElem?_getD, List.getElem?_eq_getElem h]; rfl
theorem tAt_some {xs : List Int} {k : Nat} {x : Int} (h : xs[k]? = some x) : tAt xs k = x := by unfold tAt; rw [List.getD_eq_getElem?_getD, h]; rfl
def natI (a : List Nat) : List Int := a.map fun (n : Nat) => (n : Int)
theorem natI_len (a : List Nat) : (natI a).length = a.length := by simp [natI]
theorem natI_at {a : List Nat} {k x : Nat} (h : a[k]? = some x) : (natI a)[k]? = some (x : Int) := by simp [natI, h]
theorem natI_mem {a : List Nat} {x : Nat} : (x : Int) ∈ natI a ↔ x ∈ a := by
  unfold natI
  rw [List.mem_map]
  constructor
  · rintro ⟨y, hy, e⟩
    have : y = x := by omega
    exact this ▸ hy
  · exact fun h => ⟨x, h, rfl⟩
theorem natI_neg {a : List Nat} {x : Int} (h : x < 0) : x ∉ natI a := by
  unfold natI
  rw [List.mem_map]
  rintro ⟨y, hy, e⟩
  omega
theorem natI_inj {a b : List Nat} (h : natI a = natI b) : a = b := by
  unfold natI at h
  exact (List.map_inj_right (fun x y e => by omega)).1 h
/-- All numbers are from lo to hi. -/
def inn (lo hi : Int) (xs : List Int) : Bool := xs.all fun x => decide (lo ≤ x) && decide (x ≤ hi)
theorem inn_snoc (lo hi : Int) (xs : List Int) (x : Int) : inn lo hi (xs ++ [x]) = (inn lo hi xs && (decide (lo ≤ x) && decide (x ≤ hi))) := by simp [inn]
theorem inn_false {lo hi : Int} {xs : List Int} {k : Nat} {x : Int} (h : xs[k]? = some x) (hx : x < lo ∨ hi < x) : inn lo hi xs = false := by
  unfold inn
  rw [List.all_eq_false]
  refine ⟨x, List.mem_of_getElem? h, ?_⟩
  rw [Bool.and_eq_true, decide_eq_true_iff, decide_eq_true_iff]
  omega
/-- Each number is greater than the one before it. -/
def upTo1 (xs : List Int) (k : Nat) : Bool := (List.range k).all fun i => i == 0 || decide (tAt xs (i - 1) < tAt xs i)
def upB (xs : List Int) : Bool := upTo1 xs xs.length
theorem upTo1_succ (xs : List Int) (k : Nat) : upTo1 xs (k + 1) = (upTo1 xs k && (k == 0 || decide (tAt xs (k - 1) < tAt xs k))) := by simp [upTo1, List.range_succ]
theorem upTo1_no {xs : List Int} {k n : Nat} (hk : k < n) (h0 : k ≠ 0) (h : tAt xs k ≤ tAt xs (k - 1)) : upTo1 xs n = false := by
  unfold upTo1
  rw [List.all_eq_false]
  exact ⟨k, List.mem_range.2 hk, by simp [h0]; omega⟩
theorem inn_at {lo hi : Int} {xs : List Int} : inn lo hi xs = true ↔ ∀ i, i < xs.length → lo ≤ tAt xs i ∧ tAt xs i ≤ hi := by
  unfold inn
  rw [List.all_eq_true]
  constructor
  · intro h i hi
    have := h _ (List.getElem_mem hi)
    rw [tAt_get hi] at this
    simpa using this
  · intro h x hx
    obtain ⟨i, hi, rfl⟩ := List.getElem_of_mem hx
    rw [tAt_get hi]
    simpa using h i hi
theorem inn_mem {lo hi : Int} {xs : List Int} : inn lo hi xs = true ↔ ∀ x ∈ xs, lo ≤ x ∧ x ≤ hi := by
  unfold inn
  rw [List.all_eq_true]
  exact forall_congr' fun x => imp_congr_right fun _ => by rw [Bool.and_eq_true, decide_eq_true_iff, decide_eq_true_iff]
theorem step_all {xs : List Int} {R : Int → Int → Prop} (ht : ∀ a b c, R a b → R b c → R a c) (h : ∀ i, 0 < i → i < xs.length → R (tAt xs (i - 1)) (tAt xs i)) : ∀ d i, i + d + 1 < xs.length → R (tAt xs i) (tAt xs (i + d + 1)) := by
  intro d
  induction d with
  | zero => intro i hi; have := h (i + 1) (by omega) (by omega); simpa using this
  | succ d ih =>
    intro i hi
    have h1 := ih i (by omega)
    have h2 := h (i + d + 2) (by omega) (by omega)
    exact ht _ _ _ h1 h2
theorem upB_iff {xs : List Int} : upB xs = true ↔ xs.Pairwise (· < ·) := by
  constructor
  · intro h
    have hup : ∀ i, 0 < i → i < xs.length → tAt xs (i - 1) < tAt xs i := fun i h0 hi => by
      unfold upB upTo1 at h
      rw [List.all_eq_true] at h
      have := h i (List.mem_range.2 hi)
      rw [Bool.or_eq_true, beq_iff_eq, decide_eq_true_iff] at this
      rcases this with h | h
      · omega
      · exact h
    have a1 := step_all (R := fun a b => a < b) (fun _ _ _ h1 h2 => Int.lt_trans h1 h2) hup
    rw [List.pairwise_iff_getElem]
    intro i j hi hj hij
    rw [tAt_get hi, tAt_get hj]
    have b1 := a1 (j - i - 1) i (by omega)
    rw [show i + (j - i - 1) + 1 = j by omega] at b1
    exact b1
  · intro h
    rw [List.pairwise_iff_getElem] at h
    unfold upB upTo1
    rw [List.all_eq_true]
    intro i hi
    have hi := List.mem_range.1 hi
    rw [Bool.or_eq_true, beq_iff_eq, decide_eq_true_iff]
    by_cases h0 : i = 0
    · exact .inl h0
    · have := h (i - 1) i (by omega) hi (by omega)
      rw [tAt_get (by omega), tAt_get hi] at this
      exact .inr this
/-- A strictly increasing list of cells. -/
def lstB (n : Nat) (xs : List Int) : Bool := inn 0 ((n : Int) - 1) xs && upB xs
structure Lst (n : Nat) (a : List Nat) : Prop where
  up : a.Pairwise (· < ·)
  lt : ∀ x ∈ a, x < n
theorem Lst.nodup {n : Nat} {a : List Nat} (h : Lst n a) : a.Nodup := h.up.imp fun h => Nat.ne_of_lt h
theorem nodup_lt : ∀ (M : Nat) {l : List Nat}, l.Nodup → (∀ x ∈ l, x < M) → l.length ≤ M := fun M {l} h1 h2 => nodup_le M h1 h2
theorem Lst.len {n : Nat} {a : List Nat} (h : Lst n a) : a.length ≤ n := nodup_lt n h.nodup h.lt
theorem lstB_iff {n : Nat} {xs : List Int} : lstB n xs = true ↔ ∃ a, xs = natI a ∧ Lst n a := by
  unfold lstB
  rw [Bool.and_eq_true, inn_mem, upB_iff]
  constructor
  · rintro ⟨h1, h2⟩
    have e : xs = natI (xs.map Int.toNat) := by
      unfold natI
      rw [List.map_map]
      refine (List.map_id _).symm.trans (List.map_congr_left fun x hx => ?_)
      have := h1 x hx
      simp; omega
    refine ⟨_, e, ?_, fun x hx => ?_⟩
    · rw [List.pairwise_map]
      refine h2.imp_of_mem fun {a b} ha hb hab => ?_
      have := h1 a ha; have := h1 b hb
      omega
    · obtain ⟨y, hy, rfl⟩ := List.mem_map.1 hx
      have := h1 y hy
      omega
  · rintro ⟨a, rfl, h1, h2⟩
    unfold natI
    refine ⟨fun x hx => ?_, ?_⟩
    · obtain ⟨y, hy, rfl⟩ := List.mem_map.1 hx
      have := h2 y hy
      omega
    · rw [List.pairwise_map]
      exact h1.imp fun h => by omega
/-- A number is in a list. -/
def hasB (xs : List Int) (x : Int) : Bool := decide (x ∈ xs)
theorem hasB_nat {a : List Nat} {x : Nat} : hasB (natI a) (x : Int) = decide (x ∈ a) := by
  unfold hasB
  rw [decide_eq_decide]
  exact natI_mem
theorem hasB_neg {a : List Nat} {x : Int} (h : x < 0) : hasB (natI a) x = false := decide_eq_false (natI_neg h)
/-- The error of a pond. -/
def chkP (W H : Int) (wl kl : List Int) : Int :=
  if ¬ ((1 ≤ W ∧ W ≤ 8) ∧ 1 ≤ H ∧ H ≤ 8) then 3 else if lstB (W.toNat * H.toNat) wl = false ∨ lstB (W.toNat * H.toNat) kl = false then 2 else if kl.any (hasB wl) = true then 11 else 0
/-- A valid pond. -/
structure VP (W H : Nat) (wn kn : List Nat) : Prop where
  w1 : 1 ≤ W
  w8 : W ≤ 8
  h1 : 1 ≤ H
  h8 : H ≤ 8
  want : Lst (W * H) wn
  keep : Lst (W * H) kn
  dis : ∀ x ∈ kn, x ∉ wn
theorem chkP_ok {W H : Int} {wl kl : List Int} : chkP W H wl kl = 0 ↔ ∃ (w h : Nat) (wn kn : List Nat), (W = w ∧ H = h) ∧ (wl = natI wn ∧ kl = natI kn) ∧ VP w h wn kn := by
  unfold chkP
  constructor
  · intro h
    by_cases h1 : (1 ≤ W ∧ W ≤ 8) ∧ 1 ≤ H ∧ H ≤ 8
    · rw [if_neg (Classical.not_not.2 h1)] at h
      by_cases h2 : lstB (W.toNat * H.toNat) wl = false ∨ lstB (W.toNat * H.toNat) kl = false
      · rw [if_pos h2] at h; cases h
      · rw [if_neg h2] at h
        by_cases h3 : kl.any (hasB wl) = true
        · rw [if_pos h3] at h; cases h
        · rw [not_or, Bool.not_eq_false, Bool.not_eq_false] at h2
          obtain ⟨wn, rfl, e1⟩ := lstB_iff.1 h2.1
          obtain ⟨kn, rfl, e2⟩ := lstB_iff.1 h2.2
          refine ⟨W.toNat, H.toNat, wn, kn, ⟨by omega, by omega⟩, ⟨rfl, rfl⟩, by omega, by omega, by omega, by omega, e1, e2, fun x hx hw => h3 ?_⟩
          rw [List.any_eq_true]
          exact ⟨x, natI_mem.2 hx, by rw [hasB_nat]; exact decide_eq_true hw⟩
    · rw [if_pos h1] at h; cases h
  · rintro ⟨w, h, wn, kn, ⟨rfl, rfl⟩, ⟨rfl, rfl⟩, hv⟩
    obtain ⟨a1, a2, a3, a4, a5, a6, a7⟩ := hv
    rw [if_neg (Classical.not_not.2 (by omega)), if_neg, if_neg]
    · rw [List.any_eq_true]
      rintro ⟨x, hx, e⟩
      obtain ⟨y, hy, rfl⟩ := List.mem_map.1 hx
      rw [hasB_nat, decide_eq_true_iff] at e
      exact a7 y hy e
    · simp only [Int.toNat_natCast]
      rw [lstB_iff.2 ⟨wn, rfl, a5⟩, lstB_iff.2 ⟨kn, rfl, a6⟩]
      simp
/-- What is behind a side; -1: beyond. -/
def nx (W H : Nat) (c k : Nat) : Int := match bhP W H (c, k) with
  | some d => (d : Int)
  | none => -1
def memL (l : List Nat) (c : Nat) : Bool := decide (c ∈ l)
abbrev gp {W H : Nat} {wn kn : List Nat} (h : VP W H wn kn) : Grid := gridP W H h.w8 h.h8
theorem VP.n64 {W H : Nat} {wn kn : List Nat} (h : VP W H wn kn) : W * H ≤ 64 := Nat.mul_le_mul h.w8 h.h8
theorem VP.pond {W H : Nat} {wn kn : List Nat} (h : VP W H wn kn) : Pond (gp h) 64 wn (memL kn) where
  le := h.n64
  wn := h.want.lt
  wnd := h.want.nodup
  dis := fun c hc => decide_eq_false fun hk => h.dis c hk hc
  kn := fun c hc => h.keep.lt c (of_decide_eq_true hc)
end Go.Proofs.YtppjnpempgpkaaaGreat
