/- GapBounds, by its contract. -/
import Derived.Test.YtclcippfodjfeaaL2
namespace Go.Proofs.Ytclcippfodjfeaa
open Go.RowKit
set_option linter.unusedVariables false
set_option linter.unusedSimpArgs false
attribute [local go_sem] Oper.semAt_some
set_option maxRecDepth 100000 in
set_option maxHeartbeats 4000000 in
theorem bounds7 (a : Option Addr) (cap : Nat) (row : List Int) (many : Int) (a2 : Option Addr) (cap2 : Nat) (rs : List (List Int)) (w : World) (hlen : row.length ≤ cap ∧ cap ≤ 9223372036854775807) (hr : row.length ≤ 5000 → Reads w (.slice a row.length cap) row) (hlen2 : rs.length ≤ cap2 ∧ cap2 ≤ 9223372036854775807) (hw2 : rs.length = 0 ∨ ∃ b off, a2 = some ⟨b, off, none⟩ ∧ ∀ i m, (rs.map List.length)[i]? = some m → ∃ a' cap', w.cell? ⟨b, off + i, none⟩ = some (.slice a' m cap')) (hr2 : rs.length ≤ 5000 → (∀ r ∈ rs, r.length ≤ 5000) → ReadsL w (.slice a2 rs.length cap2) rs) :
    Calls Try.prog 7 #[.slice a row.length cap, .int .i64 many, .slice a2 rs.length cap2] w fun e w' => e = .returned (.bool true) ∧ Ext w w' := by
  obtain ⟨n, hn⟩ : ∃ n, n = row.length := ⟨_, rfl⟩
  rw [← hn] at hlen hr ⊢
  have H37 := Lib.hid (rows_wide a2 cap2 rs w hw2)
  have hws := @wide_small rs
  generalize wideB (rs.map List.length) = wb at hws H37
  obtain ⟨n2, hn2⟩ : ∃ n2, n2 = rs.length := ⟨_, rfl⟩
  rw [← hn2] at hlen2 hr2 H37 ⊢
  by_cases hg : 40 < n
  · have hG : decide (40 < n) = true := by simpa using hg
    clear hr hr2 hws hw2 hg hn hn2
    go_enter Try.func7, Try.ntmps7
    have HE := Lib.hid (Ext.refl w)
    go_wp2_with fail
    refine (great17 a n cap _).mono ?_
    rintro e w1 ⟨rfl, rfl⟩
    rw [hG]
    go_wp2_with fail
    refine (works18 _).mono ?_
    rintro e w99 ⟨rfl, hb⟩
    have HE := Lib.hid (HE.out.trans hb)
    clear hb
    go_wp2
    go_ret
    exact ⟨rfl, HE.out⟩
  have hG : decide (40 < n) = false := by simpa using hg
  cases wb
  · obtain ⟨hs1, hs2⟩ := hws rfl
    have hR := hr (by omega); have hL := hr2 (by omega) hs2
    have C38 := Lib.hid (fun (W : World) (h : Ext w W) => checkRuns38 _ _ row many rs W (hR.ext h) (hL.ext h))
    have C39 := Lib.hid (fun (W : World) (h : Ext w W) => refRuns39 _ _ row many rs W (hR.ext h) (hL.ext h))
    have C41 := Lib.hid (fun (W : World) (h : Ext w W) => refAsked41 _ row many W (hR.ext h))
    have HR := Lib.hid hR
    generalize (runsV row many rs).1 = x at C38 C39
    generalize (runsV row many rs).2 = c at C38 C39
    by_cases hA : askE row many = 0
    · have C40 := Lib.hid (fun (W : World) (h : Ext w W) => runs40ok _ row many W (hR.ext h) hA)
      have C42 := Lib.hid (fun (W : World) (h : Ext w W) => mostOf42 _ row many W (hR.ext h))
      rw [hA] at C41
      generalize mostV row many = mv at C40 C42
      clear hr hr2 hg hn hn2 hR hL hs1 hs2 hws hA hw2
      go_enter Try.func7, Try.ntmps7
      have HE := Lib.hid (Ext.refl w)
      go_wp2_with fail
      refine (great17 a n cap _).mono ?_
      rintro e w1 ⟨rfl, rfl⟩
      rw [hG]
      go_wp2_with fail
      refine (H37.out _ HE.out).mono ?_
      rintro e w2 ⟨rfl, rfl⟩
      go_wp2_with fail
      refine (C38.out _ HE.out).mono ?_
      rintro e w3 ⟨rfl, hb⟩
      have HE := Lib.hid (HE.out.trans hb)
      clear hb
      go_wp2_with fail
      refine (C39.out _ HE.out).mono ?_
      rintro e w4 ⟨rfl, hb⟩
      have HE := Lib.hid (HE.out.trans hb)
      clear hb
      go_wp2_with fail
      refine (C40.out _ HE.out).mono ?_
      rintro e w5 ⟨lt, la, ln, lc, l0, rfl, hx, hb⟩
      have HE := Lib.hid (HE.out.trans hb)
      have HL := Lib.hid hx; have HL0 := Lib.hid l0
      clear hb hx l0
      go_wp2_with fail
      refine (C41.out _ HE.out).mono ?_
      rintro e w6 ⟨rfl, rfl⟩
      obtain ⟨hln, hl0⟩ := HL0.out
      have HL1 := Lib.hid hl0
      clear hl0
      go_wp2_with fail
      refine (runs39 _ _ _ _ _ _ _ _ (HR.out.ext HE.out) HL.out HL1.out).mono ?_
      rintro e w7 ⟨rfl, hb⟩
      have HE := Lib.hid (HE.out.trans hb)
      clear hb
      go_wp2_with fail
      refine (C42.out _ HE.out).mono ?_
      rintro e w8 ⟨rfl, hb⟩
      have HE := Lib.hid (HE.out.trans hb)
      clear hb
      go_wp2_with fail
      refine (works18 _).mono ?_
      rintro e w99 ⟨rfl, hb⟩
      have HE := Lib.hid (HE.out.trans hb)
      clear hb
      go_wp2
      go_ret
      exact ⟨rfl, HE.out⟩
    · have C40 := Lib.hid (fun (W : World) (h : Ext w W) => runs40no _ row many W (hR.ext h) hA)
      have hd : (askE row many != 0) = true := by simpa using hA
      generalize askE row many = cc at C40 C41 hd
      clear hr hr2 hg hn hn2 hR hL hs1 hs2 hws hA hw2
      go_enter Try.func7, Try.ntmps7
      have HE := Lib.hid (Ext.refl w)
      go_wp2_with fail
      refine (great17 a n cap _).mono ?_
      rintro e w1 ⟨rfl, rfl⟩
      rw [hG]
      go_wp2_with fail
      refine (H37.out _ HE.out).mono ?_
      rintro e w2 ⟨rfl, rfl⟩
      go_wp2_with fail
      refine (C38.out _ HE.out).mono ?_
      rintro e w3 ⟨rfl, hb⟩
      have HE := Lib.hid (HE.out.trans hb)
      clear hb
      go_wp2_with fail
      refine (C39.out _ HE.out).mono ?_
      rintro e w4 ⟨rfl, hb⟩
      have HE := Lib.hid (HE.out.trans hb)
      clear hb
      go_wp2_with fail
      refine (C40.out _ HE.out).mono ?_
      rintro e w5 ⟨rfl, hb⟩
      have HE := Lib.hid (HE.out.trans hb)
      clear hb
      go_wp2_with fail
      refine (C41.out _ HE.out).mono ?_
      rintro e w6 ⟨rfl, rfl⟩
      go_wp2_with fail
      refine (works18 _).mono ?_
      rintro e w99 ⟨rfl, hb⟩
      have HE := Lib.hid (HE.out.trans hb)
      clear hb
      go_wp2
      go_ret
      exact ⟨rfl, HE.out⟩
  · clear hr hr2 hws hw2 hg hn hn2
    go_enter Try.func7, Try.ntmps7
    have HE := Lib.hid (Ext.refl w)
    go_wp2_with fail
    refine (great17 a n cap _).mono ?_
    rintro e w1 ⟨rfl, rfl⟩
    rw [hG]
    go_wp2_with fail
    refine (H37.out _ HE.out).mono ?_
    rintro e w2 ⟨rfl, rfl⟩
    go_wp2_with fail
    refine (works18 _).mono ?_
    rintro e w99 ⟨rfl, hb⟩
    have HE := Lib.hid (HE.out.trans hb)
    clear hb
    go_wp2
    go_ret
    exact ⟨rfl, HE.out⟩
end Go.Proofs.Ytclcippfodjfeaa
