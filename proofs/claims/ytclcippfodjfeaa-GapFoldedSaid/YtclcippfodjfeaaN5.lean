/- Most, Shape, by their contracts. -/
import Derived.Test.YtclcippfodjfeaaN4
import Derived.Test.YtclcippfodjfeaaT3
namespace Go.Proofs.Ytclcippfodjfeaa
open Go.RowKit Go.Shelf
set_option linter.unusedVariables false
set_option linter.unusedSimpArgs false
attribute [local go_sem] Oper.semAt_some
theorem ask_ok {row : List Int} {many : Int} (h : askE row many = 0) : chkR row = 0 ∧ row.length ≤ 30 ∧ ∃ m : Nat, many = (m : Int) ∧ m ≤ 30 := by
  unfold askE at h
  split at h
  · contradiction
  · rename_i h0
    have h1 : chkR row = 0 := by simpa using h0
    split at h
    · rename_i h2
      exact ⟨h1, (chkR_ok.1 h1).1, many.toNat, by omega, by omega⟩
    · cases h
theorem flow_start {row : List Int} (hn : row.length ≤ 30) : Flow row [] 0 ∧ Pot (stepsL row []) (p0 row.length) ∧ ∀ v, p0 row.length v ≤ 31 := ⟨flow_nil row, pot_nil hn, fun v => p0_le hn v⟩
theorem sent_is {row : List Int} (hn : row.length ≤ 30) {m : Nat} {more : List Int} {F la : List Lk} (h : sendF row m [] last0 = some (more, F, la)) : more = (shapeI row).take m ∧ Flow row F more.length ∧ tk F = sumk m (tab row) ∧ ∃ p, Pot (stepsL row F) p ∧ (∀ v, p v ≤ 31) ∧ ∀ x, more.getLast? = some x → p 1 = p 0 + x := by
  obtain ⟨F', la', h1, h2, h3, h4, p, h5, h6, h7⟩ := send_shape hn m
  rw [h] at h1
  cases h1
  refine ⟨by unfold shapeI; rw [List.map_take], by simpa using h2, h4, p, h5, h6, fun x hx => ?_⟩
  rw [List.getLast?_map] at hx
  cases hg : ((shapeL row).take m).getLast? with
  | none => rw [hg] at hx; cases hx
  | some y => rw [hg] at hx; simp at hx; rw [h7 y hg, hx]
set_option maxRecDepth 100000 in
set_option maxHeartbeats 2000000 in
theorem most23 (v : Value) (row : List Int) (many : Int) (w : World) (hr : Reads w v row) :
    Calls Try.prog 23 #[v, .int .i64 many] w fun e w' => e = .returned (.tuple #[.int .i64 (if askE row many = 0 then mostV row many else 0), .int .i64 (askE row many)]) ∧ Ext w w' := by
  obtain ⟨hlr, a, cap, rfl⟩ := hr.shape
  have E0 := Lib.hid ((Ext.refl w).alloc (.cells #[.int .i64 many] 3))
  have H48 := Lib.hid (open_many _ (.slice (some ⟨w.heap.size, 0, none⟩) 1 1) row many (w.alloc (.cells #[.int .i64 many] 3)) (hr.ext E0.out) (Reads.new w [many] 3 _ rfl (by simp) _ rfl 1 1 rfl))
  have HR := Lib.hid hr
  clear hr hlr
  by_cases hc : askE row many = 0
  · obtain ⟨hck, hn30, m, rfl, hm⟩ := ask_ok hc
    have H48 := Lib.hid (by have h := H48.out; rw [if_pos hc, hc] at h; exact h)
    rw [if_pos hc, hc]
    have HMV := Lib.hid (show mostV row (m : Int) = ((shapeI row).take m).sum from rfl)
    obtain ⟨r, hr⟩ : ∃ r, r = mostV row (m : Int) := ⟨_, rfl⟩
    rw [← hr]
    have HRR := Lib.hid hr; have HN30 := Lib.hid hn30
    obtain ⟨n, hn⟩ : ∃ n, n = row.length := ⟨_, rfl⟩
    have HNL := Lib.hid hn
    rw [← hn] at H48 HR ⊢
    clear hr hc hck hn hn30
    go_enter Try.func23, Try.ntmps23
    go_wp2_with fail
    refine H48.out.mono ?_
    rintro e w1 ⟨rfl, hb⟩
    have E1 := Lib.hid ((E0.out.trans hb).alloc (.cells #[.slice a n cap] 57)); clear hb
    go_wp2_with fail
    refine (newNet52 _ a n cap row (HR.out.ext E1.out) (by rw [HNL.out]; exact HN30.out)).mono ?_
    rintro e w3 ⟨bn, mf, rfl, hN⟩
    have HN := Lib.hid hN
    obtain ⟨q1, q2, q3⟩ := flow_start HN30.out
    have C53 := Lib.hid (send53 _ w3 bn a n cap row mf 0 [] zer62 last0 0 m _ hN q1 q2 q3 LB.zero hm (by omega))
    clear hN q1 q2 q3
    go_wp2_with fail
    refine C53.out.mono ?_
    rintro e w4 ⟨more, F, la, far, vm, nf, hs, rfl, hO, hml, hN4, -, -⟩
    have hmore := (sent_is HN30.out hs).1
    have E4 := Lib.hid (E1.out.trans hN4.base)
    obtain ⟨am, capm, rfl, hcm⟩ := hO.shape
    have HSL := Lib.hid (show ∀ k, k ≤ more.length → 0 ≤ (more.take k).sum ∧ (more.take k).sum ≤ 900 from fun k hk => by
      rw [hmore, List.take_take]
      rw [hmore, List.length_take] at hk
      have h1 := shapeI_sum row (min k m) (by omega)
      have h2 : ((min k m : Nat) : Int) * (row.length : Int) ≤ 30 * 30 := Int.mul_le_mul (by omega) (by have := HN30.out; omega) (by omega) (by omega)
      exact ⟨h1.1, by omega⟩)
    have HSUM := Lib.hid (show more.sum = r from by rw [hmore, HRR.out, HMV.out])
    obtain ⟨lm, hlm⟩ : ∃ lm, lm = more.length := ⟨_, rfl⟩
    have HLM := Lib.hid hlm; have HO := Lib.hid hO
    rw [← hlm] at hml hcm ⊢
    rw [← hlm] at HO
    clear hs hO hN4 hmore hlm C53
    go_wp2
    go_loopw [8, 26] (fun s i wr => ∃ k : Nat, k ≤ lm ∧ i = .int .i64 (k : Int) ∧ s = .int .i64 (more.take k).sum ∧ w4 = wr) (fun s i wr => lm - (intV i).toNat)
    case atStart => exact ⟨0, Nat.zero_le _, rfl, rfl, rfl⟩
    case round =>
      obtain ⟨k, hk, rfl, rfl, rfl⟩ := hrel
      by_cases hlt : k < lm
      · obtain ⟨g, rfl, -, -, hcg, -, -⟩ := HO.out.at (p := k) (by rw [← HLM.out]; exact hlt)
        have hs1 := HSL.out k (by rw [← HLM.out]; omega)
        have hs2 := HSL.out (k + 1) (by rw [← HLM.out]; omega)
        have hst : (more.take (k + 1)).sum = (more.take k).sum + tAt more k := by rw [take_snocI (by rw [← HLM.out]; exact hlt), List.sum_append]; simp
        rw [hst] at hs2
        have HST := Lib.hid hst
        obtain ⟨x, hx⟩ : ∃ x, x = tAt more k := ⟨_, rfl⟩
        obtain ⟨sm, hsm⟩ : ∃ sm, sm = (more.take k).sum := ⟨_, rfl⟩
        rw [← hx] at hcg hs2 HST
        rw [← hsm] at hs1 hs2 HST ⊢
        have hka : (0 : Int) ≤ (k : Int) := by omega
        have hkb : (k : Int) < (lm : Int) := by omega
        have t1 : (k : Int).toNat = k := by omega
        obtain ⟨a1, a2⟩ := hs1; obtain ⟨a3, a4⟩ := hs2
        clear hst hx hsm
        go_wp2
        go_roundw
        case rel => exact ⟨k + 1, by omega, by go_num, by rw [HST.out], by first | trivial | rfl⟩
        case measure => simp [intV]; omega
      · obtain rfl : k = lm := by omega
        have hall : (more.take k).sum = r := by rw [HLM.out, List.take_length]; exact HSUM.out
        rw [hall]
        clear hall
        go_wp2
        go_ret2
        exact ⟨rfl, E4.out⟩
  · have H48 := Lib.hid (by have h := H48.out; rw [if_neg hc] at h; exact h)
    rw [if_neg hc]
    have hd : (askE row many != 0) = true := by simpa using hc
    clear hc
    generalize askE row many = c at *
    go_enter Try.func23, Try.ntmps23
    go_wp2_with fail
    refine H48.out.mono ?_
    rintro e w1 ⟨rfl, hb⟩
    have E1 := Lib.hid ((E0.out.trans hb).alloc (.cells #[.slice none 0 0] 57)); clear hb
    go_wp2
    go_ret2
    exact ⟨rfl, E1.out⟩
set_option maxRecDepth 100000 in
set_option maxHeartbeats 2000000 in
theorem shape27 (v : Value) (row : List Int) (w : World) (hr : Reads w v row) :
    Calls Try.prog 27 #[v] w (ListRef w (chkR row) (shapeI row)) := by
  have H48 := Lib.hid (open_none v row w hr)
  have HR := Lib.hid hr
  by_cases hc : chkR row = 0
  · obtain ⟨hlr, a, cap, rfl⟩ := hr.shape
    have hn30 := (chkR_ok.1 hc).1
    have H48 := Lib.hid (by have h := H48.out; rw [if_pos hc, hc] at h; exact h)
    rw [hc]
    have HN30 := Lib.hid hn30
    have HST := Lib.hid (fun (more : List Int) (F la : List Lk) (h : sendF row row.length [] last0 = some (more, F, la)) => (show more = shapeI row from by
      have := (sent_is hn30 h).1
      rw [this]
      unfold shapeI
      rw [← List.map_take, shape_take_all]))
    obtain ⟨sh, hsh⟩ : ∃ sh, sh = shapeI row := ⟨_, rfl⟩
    rw [← hsh] at HST ⊢
    obtain ⟨n, hn⟩ : ∃ n, n = row.length := ⟨_, rfl⟩
    have HNL := Lib.hid hn
    rw [← hn] at H48 HR ⊢
    clear hr hc hlr hn30 hsh hn
    go_enter Try.func27, Try.ntmps27
    go_wp2_with fail
    refine H48.out.mono ?_
    rintro e w1 ⟨rfl, hb⟩
    have E1 := Lib.hid (hb.alloc (.cells #[.slice a n cap] 57)); clear hb
    go_wp2_with fail
    refine (newNet52 _ a n cap row (HR.out.ext E1.out) (by rw [HNL.out]; exact HN30.out)).mono ?_
    rintro e w3 ⟨bn, mf, rfl, hN⟩
    obtain ⟨q1, q2, q3⟩ := flow_start HN30.out
    have C53 := Lib.hid (send53 _ w3 bn a n cap row mf 0 [] zer62 last0 0 n _ hN q1 q2 q3 LB.zero (by rw [HNL.out]; exact HN30.out) (by omega))
    clear hN q1 q2 q3
    go_wp2_with fail
    refine C53.out.mono ?_
    rintro e w4 ⟨more, F, la, far, vm, nf, hs, rfl, hO, hml, hN4, -, -⟩
    have hmore := HST.out more F la (by rw [← HNL.out]; exact hs)
    have E4 := Lib.hid (E1.out.trans hN4.base)
    have hrd := hO.reads (by have h1 := HN30.out; rw [← HNL.out] at h1; omega)
    rw [hmore] at hrd
    have HRD := Lib.hid hrd
    clear hs hO hN4 hmore C53 hrd hml
    go_wp2
    go_ret2
    exact ⟨.inr ⟨rfl, vm, rfl, HRD.out⟩, E4.out⟩
  · have H48 := Lib.hid (by have h := H48.out; rw [if_neg hc] at h; exact h)
    have hd : (chkR row != 0) = true := by simpa using hc
    obtain ⟨hlr, a, cap, rfl⟩ := hr.shape
    have HC := Lib.hid hc
    clear hc hr
    generalize chkR row = c at *
    go_enter Try.func27, Try.ntmps27
    go_wp2_with fail
    refine H48.out.mono ?_
    rintro e w1 ⟨rfl, hb⟩
    have E1 := Lib.hid (hb.alloc (.cells #[.slice none 0 0] 57)); clear hb
    go_wp2
    go_ret2
    exact ⟨.inl ⟨HC.out, rfl⟩, E1.out⟩
end Go.Proofs.Ytclcippfodjfeaa
