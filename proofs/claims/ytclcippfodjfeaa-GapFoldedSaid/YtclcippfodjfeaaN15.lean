/- Fewest, Run, by their contracts. -/
import Derived.Test.YtclcippfodjfeaaN14
import Derived.Test.YtclcippfodjfeaaN5
namespace Go.Proofs.Ytclcippfodjfeaa
open Go.RowKit Go.Shelf
set_option linter.unusedVariables false
set_option linter.unusedSimpArgs false
attribute [local go_sem] Oper.semAt_some
theorem long_len (row : List Int) : (natI (longM row)).length = (tab row).length := by rw [natI_len, ← few_long, few_tab]
set_option maxRecDepth 100000 in
set_option maxHeartbeats 2000000 in
theorem fewest25 (v : Value) (row : List Int) (w : World) (hr : Reads w v row) :
    Calls Try.prog 25 #[v] w fun e w' => e = .returned (.tuple #[.int .i64 (if chkR row = 0 then ((tab row).length : Int) else 0), .int .i64 (chkR row)]) ∧ Ext w w' := by
  have H48 := Lib.hid (open_none v row w hr)
  have HR := Lib.hid hr
  by_cases hc : chkR row = 0
  · obtain ⟨hlr, a, cap, rfl⟩ := hr.shape
    have hn30 := (chkR_ok.1 hc).1
    have H48 := Lib.hid (by have h := H48.out; rw [if_pos hc, hc] at h; exact h)
    rw [if_pos hc, hc]
    have HLL := Lib.hid (long_len row)
    have HN30 := Lib.hid hn30
    obtain ⟨n, hn⟩ : ∃ n, n = row.length := ⟨_, rfl⟩
    have HNL := Lib.hid hn
    rw [← hn] at H48 HR ⊢
    clear hr hc hlr hn30 hn
    go_enter Try.func25, Try.ntmps25
    go_wp2_with fail
    refine H48.out.mono ?_
    rintro e w1 ⟨rfl, hb⟩
    have E1 := Lib.hid (hb.alloc (.cells #[.slice a n cap] 57)); clear hb
    have C54 := Lib.hid (longest54 a n cap row _ (HR.out.ext E1.out) (by rw [HNL.out]; exact HN30.out))
    go_wp2_with fail
    refine C54.out.mono ?_
    rintro e w4 ⟨b, hb, rfl, hA, hE⟩
    have E4 := Lib.hid (E1.out.trans hE)
    rw [HLL.out]
    clear hA hE hb C54
    go_wp2
    go_ret2
    exact ⟨rfl, E4.out⟩
  · have H48 := Lib.hid (by have h := H48.out; rw [if_neg hc] at h; exact h)
    have hd : (chkR row != 0) = true := by simpa using hc
    obtain ⟨hlr, a, cap, rfl⟩ := hr.shape
    rw [if_neg hc]
    clear hc hr
    generalize chkR row = c at *
    go_enter Try.func25, Try.ntmps25
    go_wp2_with fail
    refine H48.out.mono ?_
    rintro e w1 ⟨rfl, hb⟩
    have E1 := Lib.hid (hb.alloc (.cells #[.slice none 0 0] 57)); clear hb
    go_wp2
    go_ret2
    exact ⟨rfl, E1.out⟩
set_option maxRecDepth 100000 in
set_option maxHeartbeats 2000000 in
theorem run33 (v : Value) (row : List Int) (w : World) (hr : Reads w v row) :
    Calls Try.prog 33 #[v] w (ListRef w (chkR row) (natI (longM row))) := by
  have H48 := Lib.hid (open_none v row w hr)
  have HR := Lib.hid hr
  by_cases hc : chkR row = 0
  · obtain ⟨hlr, a, cap, rfl⟩ := hr.shape
    have hn30 := (chkR_ok.1 hc).1
    have H48 := Lib.hid (by have h := H48.out; rw [if_pos hc, hc] at h; exact h)
    rw [hc]
    have HLL := Lib.hid (show (natI (longM row)).length ≤ 5000 from by rw [long_len]; have := (tab_all row).1; omega)
    have HN30 := Lib.hid hn30
    obtain ⟨n, hn⟩ : ∃ n, n = row.length := ⟨_, rfl⟩
    have HNL := Lib.hid hn
    rw [← hn] at H48 HR ⊢
    clear hr hc hlr hn30 hn
    go_enter Try.func33, Try.ntmps33
    go_wp2_with fail
    refine H48.out.mono ?_
    rintro e w1 ⟨rfl, hb⟩
    have E1 := Lib.hid (hb.alloc (.cells #[.slice a n cap] 57)); clear hb
    have C54 := Lib.hid (longest54 a n cap row _ (HR.out.ext E1.out) (by rw [HNL.out]; exact HN30.out))
    go_wp2_with fail
    refine C54.out.mono ?_
    rintro e w4 ⟨b, hb, rfl, hA, hE⟩
    have E4 := Lib.hid (E1.out.trans hE)
    have HRD := Lib.hid (hA.reads HLL.out rfl ⟨Nat.le_refl _, by have := HLL.out; omega⟩)
    obtain ⟨l, hl⟩ : ∃ l, l = (natI (longM row)).length := ⟨_, rfl⟩
    rw [← hl] at HRD ⊢
    clear hA hE hb C54 hl
    go_wp2
    go_ret2
    exact ⟨.inr ⟨rfl, _, rfl, HRD.out⟩, E4.out⟩
  · have H48 := Lib.hid (by have h := H48.out; rw [if_neg hc] at h; exact h)
    have hd : (chkR row != 0) = true := by simpa using hc
    obtain ⟨hlr, a, cap, rfl⟩ := hr.shape
    have HC := Lib.hid hc
    clear hc hr
    generalize chkR row = c at *
    go_enter Try.func33, Try.ntmps33
    go_wp2_with fail
    refine H48.out.mono ?_
    rintro e w1 ⟨rfl, hb⟩
    have E1 := Lib.hid (hb.alloc (.cells #[.slice none 0 0] 57)); clear hb
    go_wp2
    go_ret2
    exact ⟨.inl ⟨HC.out, rfl⟩, E1.out⟩
end Go.Proofs.Ytclcippfodjfeaa
