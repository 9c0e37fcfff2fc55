/- Lists of logs in memory; logs one after another. -/
import Derived.Test.YtcgheakadfjofaaB18
import Derived.Deep.LoopGhost
import Derived.Deep.RegionWith
namespace Go.Proofs.Ytcgheakadfjofaa
open Go.RowKit
set_option linter.unusedVariables false
set_option linter.unusedSimpArgs false
/-- A slice of logs that reads as a list. -/
def ReadsLg (w : World) (v : Value) (ls : List (Int × Int)) : Prop :=
  ls.length ≤ 5000 ∧ ∃ a cap, v = .slice a ls.length cap ∧ ((a = none ∧ ls = []) ∨ ∃ b off, a = some ⟨b, off, none⟩ ∧
    ∀ i p, ls[i]? = some p → w.cell? ⟨b, off + i * 2, none⟩ = some (.int .i64 p.1) ∧ w.cell? ⟨b, off + i * 2 + 1, none⟩ = some (.int .i64 p.2))
theorem ReadsLg.ext {w w' : World} {v : Value} {ls : List (Int × Int)} (h : ReadsLg w v ls) (hb : Ext w w') : ReadsLg w' v ls := by
  obtain ⟨hl, a, cap, rfl, h⟩ := h
  refine ⟨hl, a, cap, rfl, h.imp id ?_⟩
  rintro ⟨b, off, rfl, hc⟩
  exact ⟨b, off, rfl, fun i p hi => ⟨cell_ext hb (hc i p hi).1, cell_ext hb (hc i p hi).2⟩⟩
theorem ReadsLg.nil (w : World) : ReadsLg w (.slice none 0 0) [] := ⟨by simp, none, 0, rfl, .inl ⟨rfl, rfl⟩⟩
theorem ReadsLg.at {w : World} {a : Option Addr} {n cap : Nat} {ls : List (Int × Int)} (h : ReadsLg w (.slice a n cap) ls) {k : Nat} (hk : k < ls.length) :
    ∃ b off p, a = some ⟨b, off, none⟩ ∧ ls[k]? = some p ∧ w.cell? ⟨b, off + k * 2, none⟩ = some (.int .i64 p.1) ∧ w.cell? ⟨b, off + k * 2 + 1, none⟩ = some (.int .i64 p.2) := by
  obtain ⟨hl, a', cap', e, h⟩ := h
  cases e
  rcases h with ⟨rfl, rfl⟩ | ⟨b, off, rfl, hc⟩
  · simp at hk
  · exact ⟨b, off, ls[k], rfl, by simp [hk], hc k _ (by simp [hk])⟩
theorem ReadsLg.shape {w : World} {v : Value} {ls : List (Int × Int)} (h : ReadsLg w v ls) : ls.length ≤ 5000 ∧ ∃ a cap, v = .slice a ls.length cap := ⟨h.1, let ⟨a, cap, e, _⟩ := h.2; ⟨a, cap, e⟩⟩
/-- No log begins before the end of the one before it. -/
def oneB : List (Int × Int) → Bool
  | p :: q :: l => decide (p.2 ≤ q.1) && oneB (q :: l)
  | _ => true
theorem one_take_succ (ls : List (Int × Int)) (k : Nat) (x y : Int × Int) (h : ls[k]? = some x) (h' : ls[k + 1]? = some y) : oneB (ls.take (k + 2)) = (oneB (ls.take (k + 1)) && decide (x.2 ≤ y.1)) := by
  induction ls generalizing k with
  | nil => simp at h
  | cons a l ih =>
    cases k with
    | zero =>
      cases l with
      | nil => simp at h'
      | cons b l => simp at h h'; subst h; subst h'; simp [oneB]
    | succ k =>
      cases l with
      | nil => simp at h
      | cons b l =>
        simp only [List.getElem?_cons_succ] at h h'
        have := ih k h h'
        simp only [List.take_succ_cons] at this ⊢
        simp only [oneB, this, Bool.and_assoc]
theorem one_prefix : ∀ (ls : List (Int × Int)) (n : Nat), oneB ls = true → oneB (ls.take n) = true
  | [], n, _ => by simp [oneB]
  | [x], n, _ => by cases n <;> simp [oneB]
  | x :: y :: l, 0, _ => by simp [oneB]
  | x :: y :: l, 1, _ => by simp [oneB]
  | x :: y :: l, n + 2, h => by
    have h1 := one_prefix (y :: l) (n + 1)
    simp only [oneB, Bool.and_eq_true, List.take_succ_cons] at h h1 ⊢
    exact ⟨h.1, h1 h.2⟩
set_option maxHeartbeats 1000000 in
theorem one61 (v : Value) (ls : List (Int × Int)) (w : World) (hr : ReadsLg w v ls) :
    Calls Try.prog 61 #[v] w fun e w' => e = .returned (.bool (oneB ls)) ∧ Ext w w' := by
  obtain ⟨hl, a, cap, rfl⟩ := hr.shape
  have HC := Lib.hid hr; clear hr
  have hl2 : ls.length ≤ 9223372036854775807 := by omega
  go_enter Try.func61, Try.ntmps61
  go_wp2
  go_loopw [3] (fun i wr => ∃ k : Nat, (k + 1 ≤ ls.length ∨ k = 0) ∧ i = .int .i64 ((k : Int) + 1) ∧ Hid (oneB (ls.take (k + 1)) = true) ∧ Hid (Ext w wr)) (fun i wr => ls.length + 1 - (intOf i).toNat)
  case atStart => exact ⟨0, .inr rfl, rfl, (by cases ls <;> simp [oneB] : _ = true), Ext.refl _⟩
  case round =>
    obtain ⟨k, hk, rfl, hI, hE⟩ := hrel
    by_cases hlt : k + 1 < ls.length
    · obtain ⟨b, off, y, rfl, hy, hcy, -⟩ := (HC.out.ext hE.out).at hlt
      obtain ⟨b', off', x, hbx, hx, -, hcx⟩ := (HC.out.ext hE.out).at (show k < ls.length by omega)
      cases hbx
      have hs := one_take_succ ls k x y hx hy
      rw [hI.out, Bool.true_and] at hs
      have HS := Lib.hid hs
      clear hx hy hs
      obtain ⟨x1, x2⟩ := x
      obtain ⟨y1, y2⟩ := y
      have hka : (0 : Int) ≤ (k : Int) + 1 := by omega
      have hkb : (k : Int) + 1 < (ls.length : Int) := by omega
      have hkc : (0 : Int) ≤ (k : Int) := by omega
      have hkd : (k : Int) < (ls.length : Int) := by omega
      have hw1 : IntKind.i64.wrap ((k : Int) + 1 - 1) = (k : Int) := by rw [show (k : Int) + 1 - 1 = k from by omega]; exact wrapi64 _ (by omega) (by omega)
      have ht : ((k : Int) + 1).toNat = k + 1 := by omega
      have ht2 : (k : Int).toNat = k := by omega
      simp only at hcx hcy HS
      by_cases hxy : y1 < x2
      · have hd : decide (y1 < x2) = true := by simp; omega
        go_wp2
        go_quiet (fail)
        go_wp2
        go_ret
        refine ⟨ret_bool ?_, hE.out.drewN _⟩
        cases e : oneB ls with
        | false => rfl
        | true =>
          have h1 := one_prefix ls (k + 2) e
          rw [HS.out] at h1
          simp at h1; omega
      · have hd : decide (y1 < x2) = false := by simp; omega
        go_wp2
        go_quiet (fail)
        go_wp2
        go_roundw
        case rel => exact ⟨k + 1, .inl (by omega), by go_num, (by rw [show k + 1 + 1 = k + 2 from rfl, HS.out]; simp; omega : _ = true), Lib.hid (hE.out.drewN _)⟩
        case measure => simp [intOf]; omega
    · go_wp2
      go_ret
      refine ⟨ret_bool ?_, hE.out⟩
      have h1 := hI.out
      rw [List.take_of_length_le (by omega)] at h1
      exact h1.symm
end Go.Proofs.Ytcgheakadfjofaa
