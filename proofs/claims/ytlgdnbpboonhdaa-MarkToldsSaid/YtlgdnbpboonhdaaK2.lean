/- The map from pairs to worn marks: looking up, and its keys one after another. -/
import Derived.Test.YtlgdnbpboonhdaaI
import Derived.Sort.MapsRangeIn
import Derived.Lib.SlKeysI
import Derived.RangeFuncSeq
namespace Go.Proofs.Ytlgdnbpboonhdaa
open Go.RowKit Go.Maps Go.Sort
set_option linter.unusedVariables false
def kv (p : Nat × Nat) : Value := .agg #[.int .i64 (p.1 : Int), .int .i64 (p.2 : Int)]
theorem kv_key {p : Nat × Nat} (h : p.1 < 1000 ∧ p.2 < 1000) : keyOf Try.prog 76 (kv p) = some (kp p) := kp_eq p.1 p.2 h.1 h.2
/-- 'v, ok := m[pair]'. -/
theorem ClMap.look {W : World} {b n : Nat} {f : Nat × Nat → Option Nat} (h : ClMap W b n f) (p : Nat × Nat) (hp : p.1 < 1000 ∧ p.2 < 1000) :
    ∃ c : Int, (Instr.lookup 73 (.map (some b)) (kv p) true).run Try.prog W = .ok (.tuple #[.int .i64 c, .bool (f p).isSome]) W ∧ ∀ s, f p = some s → c = (s : Int) := by
  obtain ⟨D, ho, hm⟩ := h
  obtain ⟨v, ps, hrun, hv⟩ := ho.look_ok keyed76 (t := 73) Try.underlying73 (z := .int .i64 0) (by simp [zeroValue]; rfl) (plainElem_int (H := Unit) Try.underlying3 (by decide)) (kv_key hp)
  obtain ⟨c, rfl, hc, -⟩ := plainElem_int_inv Try.underlying3 hv
  obtain ⟨h1, h2⟩ := hm.2.1 p.1 p.2 hp.1 hp.2
  refine ⟨c, by rw [hrun, h1], fun s hs => ?_⟩
  have h3 := h2 s hs
  have h4 := congrArg Prod.fst hc
  dsimp only at h4
  rw [show (p.1, p.2) = p from rfl] at h3
  rw [h3] at h4
  simpa using h4.symm
/-- The relation's word: no pair twice; a pair is on the list just where the map has it and it is no longer to come. -/
def Collected (f : Nat × Nat → Option Nat) (left : Lit → Bool) (ss : List (Nat × Nat)) : Prop :=
  ss.Nodup ∧ ∀ p, p ∈ ss ↔ ((p.1 < 1000 ∧ p.2 < 1000) ∧ (f p).isSome = true ∧ left (kp p) = false)
theorem Collected.start {D : DataW Unit} {f : Nat × Nat → Option Nat} (h : MapIs D f) : Collected f (has D) [] := by
  refine ⟨List.nodup_nil, fun p => ?_⟩
  simp only [List.not_mem_nil, false_iff, not_and]
  intro hp hs
  rw [(h.2.1 p.1 p.2 hp.1 hp.2).1, hs]
  simp
theorem kp_inj' {p q : Nat × Nat} (hp : p.1 < 1000 ∧ p.2 < 1000) (hq : q.1 < 1000 ∧ q.2 < 1000) (h : kp p = kp q) : p = q := kp_inj hp.1 hp.2 hq.1 hq.2 h
theorem sameKey_kp (p q : Nat × Nat) : (kp p).sameKey (kp q) = true ↔ kp p = kp q := by
  simp [kp, Lit.sameKey]
theorem Collected.step {D : DataW Unit} {f : Nat × Nat → Option Nat} {left : Lit → Bool} {ss : List (Nat × Nat)} (h : Collected f left ss) (hm : MapIs D f) {p : Nat × Nat} (hp : p.1 < 1000 ∧ p.2 < 1000) (hlk : left (kp p) = true) (hh : has D (kp p) = true) :
    (f p).isSome = true ∧ Collected f (fun z => left z && !z.sameKey (kp p)) (ss ++ [p]) := by
  have hs : (f p).isSome = true := by rw [← (hm.2.1 p.1 p.2 hp.1 hp.2).1]; exact hh
  have hnew : p ∉ ss := fun hx => by have := ((h.2 p).1 hx).2.2; rw [hlk] at this; cases this
  refine ⟨hs, List.nodup_append.2 ⟨h.1, by simp, fun a ha b hb => by simp at hb; subst hb; exact fun e => hnew (e ▸ ha)⟩, fun q => ?_⟩
  rw [List.mem_append, List.mem_singleton, h.2 q]
  by_cases e : q = p
  · subst e; simp [hp, hs, (sameKey_kp q q).2 rfl]
  · simp only [e, or_false, Bool.and_eq_false_iff, Bool.not_eq_false', sameKey_kp]
    constructor
    · rintro ⟨a, b, c⟩; exact ⟨a, b, .inl c⟩
    · rintro ⟨a, b, c | c⟩
      · exact ⟨a, b, c⟩
      · exact absurd (kp_inj' a hp c) e
/-- All the pairs of a map, each once. -/
def AllOf (f : Nat × Nat → Option Nat) (ys : List (Nat × Nat)) : Prop := ys.Nodup ∧ ∀ p, p ∈ ys ↔ ((p.1 < 1000 ∧ p.2 < 1000) ∧ (f p).isSome = true)
theorem Collected.all {f : Nat × Nat → Option Nat} {left : Lit → Bool} {ss : List (Nat × Nat)} (h : Collected f left ss) (hl : ∀ kl, left kl = false) : AllOf f ss :=
  ⟨h.1, fun p => by rw [h.2 p, hl]; simp⟩
theorem Collected.some {f : Nat × Nat → Option Nat} {left : Lit → Bool} {ss : List (Nat × Nat)} (h : Collected f left ss) : ∀ p ∈ ss, (p.1 < 1000 ∧ p.2 < 1000) ∧ (f p).isSome = true := fun p hp => ⟨((h.2 p).1 hp).1, ((h.2 p).1 hp).2.1⟩
set_option maxRecDepth 100000 in
set_option maxHeartbeats 4000000 in
theorem keys94 (f l Bm b nn : Nat) (g : Nat × Nat → Option Nat) (hf : 1 ≤ f) (J Jx : List (Nat × Nat) → World → Prop) (W : World)
    (hJ : AbidesFrom W.heap.size J)
    (hY : ∀ pre x W1, J pre W1 → pre.length < nn → YieldAt Fence.wide (f - 1) Try.prog l #[kv x] W1 fun e W' =>
      (e = .returned (.bool true) ∧ J (pre ++ [x]) W' ∧ KeepsWalks W1 W') ∨ (e = .returned (.bool false) ∧ Jx (pre ++ [x]) W'))
    (hm : W.cell? ⟨Bm, 0, none⟩ = some (.map (some b))) (hown : ClMap W b nn g) (h0 : J [] W) :
    CallsIn Fence.wide f Try.prog 94 #[.func (.yield l) #[] #[], .pointer (some ⟨Bm, 0, none⟩)] W fun e W' => (∃ v, e = .returned v) ∧
      ((∃ ys, AllOf g ys ∧ J ys W') ∨ (∃ pre, (∀ p ∈ pre, (p.1 < 1000 ∧ p.2 < 1000) ∧ (g p).isSome = true) ∧ Jx pre W')) := by
  obtain ⟨D0, hown, hMI⟩ := hown
  have HM := Lib.hid hMI
  refine callsIn_of_wp Try.func94 rfl trivial ?_ rfl
  simp only [Try.ntmps94, List.size_toArray, List.length_cons, List.length_nil, Nat.reduceAdd, Nat.reduceSub, Array.replicate_succ, Array.replicate_zero, List.push_toArray, List.append_toArray, List.nil_append, List.cons_append]
  gi_wp2_with (first
    | (gi_at_range; refine wpListIn_range_own _ rfl _ 73 rfl 76 3 keyed76 Try.underlying73 _ b nn _ rfl hown ?_; intro w0 hrg0 hg0 hs0)
    | gi_in)
  go_frame
  gi_loopw [3] (fun _ wr => ∃ (left : Lit → Bool) (cnt : Nat) (ss : List (Nat × Nat)), wr.ranges Try.prog 76 (plainElem (H := Unit) Try.prog 3) b W.heap.size nn D0 left cnt ∧ Collected g left ss ∧ J ss wr ∧ ss.length + cnt ≤ nn)
    (fun _ wr => wr.rangeLeft b W.heap.size)
  case atStart =>
    refine ⟨_, _, [], hrg0, Collected.start HM.out, hJ [] W w0 none h0 hg0 (fun r e => by cases e), ?_⟩
    have := hown.size_le
    simpa using this
  case round =>
    obtain ⟨left, cnt, ss, hrg, hC, hJs, hcnt⟩ := hrel
    gi_wp2_with (first
      | (gi_at_next; refine wpListIn_next_ranges _ rfl _ rfl 76 keyed76 (plainElem (H := Unit) Try.prog 3) (fun v : Value => v) (fun v : Value => v) (fun key kl hk => ⟨key, rfl⟩) (fun v _ _ => ⟨v, rfl⟩) b W.heap.size nn _ _ _ rfl hrg ?_ ?_)
      | gi_in)
    · intro hc0 hl0
      gi_wp2
      go_end0
      exact ⟨⟨_, rfl⟩, .inl ⟨ss, hC.all hl0, hJs⟩⟩
    · intro x c kl yd yp w2 cnt2 hkey hlk hv hat hrg2 hlt hg2 hs2 hen
      have hh := has_true_of_atKey hat
      obtain ⟨p, hp1, hp2, rfl⟩ := HM.out.2.2 kl hh
      obtain rfl : x = kv p := keyed76.inj hkey (kv_key ⟨hp1, hp2⟩)
      obtain ⟨hs, hC2⟩ := hC.step HM.out ⟨hp1, hp2⟩ hlk hh
      have hJ2 : J ss w2 := hJ ss wr w2 (some W.heap.size) hJs hg2 (fun r e => by cases e; exact ⟨Nat.le_refl _, hrg.iter_walk⟩)
      have hJ2 := hJ ss w2 (w2.alloc (.cells #[.int .i64 (p.1 : Int), .int .i64 (p.2 : Int)] 76)) none hJ2 (World.grownBy_alloc _ _ none) (fun r e => by cases e)
      obtain ⟨fn, tmps, assign, body, hy, hR⟩ := hY ss p _ hJ2 (by omega)
      have HRR := Lib.hid hR
      have hle := hrg.left_eq
      clear hs2 hR hC hrg hg2 hJs hJ2 hat hh hv
      obtain ⟨i, k⟩ := p
      dsimp only [kv] at hen hy ⊢
      gi_wp2
      refine HRR.out.mono ?_
      rintro e W3 (⟨rfl, hJ3, hk3⟩ | ⟨rfl, hJx3⟩)
      · have HJ3 := Lib.hid hJ3; have HK3 := Lib.hid hk3; clear hJ3 hk3 HRR
        have HS := Lib.hid hs; have HC2 := Lib.hid hC2
        have hcn : (ss ++ [(i, k)]).length + cnt2 ≤ nn := by rw [List.length_append]; simp; omega
        clear hs hC2
        gi_wp2
        have hrg3 := hrg2.of_walks ((KeepsWalks.alloc _ _).trans HK3.out)
        go_roundw
        case rel => exact ⟨_, cnt2, ss ++ [(i, k)], hrg3, HC2.out, HJ3.out, hcn⟩
        case measure => rw [hrg3.left_eq, hle]; exact hlt
      · have HJx3 := Lib.hid hJx3; clear hJx3 HRR
        have HS := Lib.hid hs; have HC2 := Lib.hid hC2
        clear hs hC2
        gi_wp2
        refine bodyPost_ret (results_none rfl _ _ _) rfl ?_
        exact ⟨⟨_, rfl⟩, .inr ⟨_, HC2.out.some, HJx3.out⟩⟩
theorem keys_stops (f Bm b nn : Nat) (g : Nat × Nat → Option Nat) (hf : 1 ≤ f) (w : World) (hm : w.cell? ⟨Bm, 0, none⟩ = some (.map (some b))) (hown : ClMap w b nn g) :
    SeqStopsK Fence.wide f Try.prog 94 #[.pointer (some ⟨Bm, 0, none⟩)] (fun x => #[kv x]) KeepsWalks (AllOf g) (fun pre => ∀ p ∈ pre, (p.1 < 1000 ∧ p.2 < 1000) ∧ (g p).isSome = true) nn w := fun l J Jx W hW hJ _ hY h0 =>
  keys94 f l Bm b nn g hf J Jx W hJ hY (cell_ext hW hm) (hown.ext hW) h0
theorem keys66 (mb : Option Nat) (w : World) : Calls Try.prog 66 #[.map mb] w fun e w' => e = .returned (.func (.func 94) #[] #[.pointer (some ⟨w.heap.size, 0, none⟩)]) ∧ w' = w.alloc (.cells #[.map mb] 73) := by
  go_enter Try.func66, Try.ntmps66
  go_wp2
  go_ret
  exact ⟨rfl, rfl⟩
end Go.Proofs.Ytlgdnbpboonhdaa
