/- MarkFamily, by its contract: a valid office. -/
import Derived.Test.YtlgdnbpboonhdaaG16
import Derived.Test.YtlgdnbpboonhdaaE8
namespace Go.Proofs.Ytlgdnbpboonhdaa
open Go.RowKit Go.Shelf Go.Maps
set_option linter.unusedVariables false
attribute [local go_sem] Oper.semAt_some
theorem set_row2 {W : World} {b : Nat} {x y z : Value} {t : TypeId} {fr : Nat × Nat} (h : W.heap[b]? = some (.cells #[x, y, z] t fr)) (z' : Value) :
    (W.setCell ⟨b, 2, none⟩ z').heap[b]? = some (.cells #[x, y, z'] t fr) := by
  show (W.heap.modify b _)[b]? = _
  rw [Array.getElem?_modify, if_pos rfl, h]
  rfl
theorem Owns.set_below {B : Nat} {w : World} {v : Value} {xs : List Int} (h : Owns B w v xs) {b o : Nat} (hb : b < B) (u : Value) : Owns B (w.setCell ⟨b, o, none⟩ u) v xs := by
  obtain ⟨h1, h2 | ⟨g, cap, cur, e, hg, hh, r⟩⟩ := h
  · exact ⟨h1, .inl h2⟩
  · refine ⟨h1, .inr ⟨g, cap, cur, e, hg, ?_, r⟩⟩
    rw [← hh]
    show (w.heap.modify b _)[g]? = _
    rw [Array.getElem?_modify, if_neg (by omega)]
theorem ext_off {w w' : World} (h : Ext w w') {b : Nat} {S L v : Value} (hp : OffAt w b S L v) : OffAt w' b S L v := hp.ext h
set_option maxRecDepth 100000 in
set_option maxHeartbeats 8000000 in
theorem family13_ok (S L : Nat) (a a0 : Option Addr) (cap cap0 : Nat) (ms ns : List Nat) (z : Nat) (hz : z ≤ 65535) (w : World) (hv : Valid S L ms) (hR : Reads w (.slice a (ints ms).length cap) (ints ms))
    (hf : ∀ W, Ext w W → Calls Try.prog 41 #[.agg #[.int .i64 (S : Int), .int .i64 (L : Int), .slice a (ints ms).length cap]] W fun e w' => e = .returned (.bool true) ∧ Ext W w')
    (h40 : ns.length ≤ 40) (hU : Reads16 w (.slice a0 ns.length cap0) ns) (hb : ∀ x ∈ ns, x ≤ 65535) :
    Calls Try.prog 13 #[.agg #[.int .i64 (S : Int), .int .i64 (L : Int), .slice a (ints ms).length cap], .slice a0 ns.length cap0, .int .u16 (z : Int)] w fun e w' => e = .returned (.bool true) ∧ Ext w w' := by
  have E0 := Lib.hid ((Ext.refl w).alloc (.cells #[.int .i64 (S : Int), .int .i64 (L : Int), .slice a (ints ms).length cap] 24))
  have P0 := Lib.hid (OffAt.new w (.int .i64 (S : Int)) (.int .i64 (L : Int)) (.slice a (ints ms).length cap) 24)
  rw [ints_length] at hR hf E0 P0 ⊢
  have hq := numL_valid (ns := ns) hv
  have HF := Lib.hid (hf _ E0.out)
  have H49 := Lib.hid (fun W (h : Ext w W) => numbers49 S L ms ns _ _ W hv (hR.ext h) (hU.ext h) hb)
  generalize numL S ns = qs at *
  have hq12 := hq.2.2.2.1
  have hn12 := hv.2.2.2.1
  obtain ⟨hfam, -⟩ := family_best hv hq
  have hfl := Nat.le_trans (((famOK_iff hv hq _).1 hfam).1.length_le) (freeIx_len ms L qs)
  have hmore := family_more hv hq
  have hfin : ∀ i ∈ familyL ms L qs, i < qs.length := fun i hi => (hfam.2.1 i hi).1
  obtain ⟨N, hN⟩ : ∃ N, N = 2 ^ qs.length := ⟨_, rfl⟩
  obtain ⟨g, hg⟩ : ∃ g, g = z % N := ⟨_, rfl⟩
  have hgN : g < 2 ^ qs.length := by rw [hg, hN]; exact Nat.mod_lt _ (Nat.two_pow_pos _)
  have hN2 : N ≤ 4096 := by rw [hN]; exact Nat.pow_le_pow_right (n := 2) (by omega) (show qs.length ≤ 12 by omega)
  have hNp : 0 < N := by rw [hN]; exact Nat.two_pow_pos _
  have hN0 : ¬ (N : Int) = 0 := fun h => by rw [Int.natCast_eq_zero] at h; rw [h] at hNp; cases hNp
  have hg4 : g < 4096 := by rw [hg]; exact Nat.lt_of_lt_of_le (Nat.mod_lt _ hNp) hN2
  have e6 : (z : Int) % (N : Int) = (g : Int) := by rw [hg]; simp
  have hwp : wrap64 (2 ^ qs.length) = (N : Int) := by
    rw [hN]
    rcases Nat.lt_or_ge qs.length 12 with h | h
    · exact wrap_pow _ h
    · have h12 : qs.length = 12 := by omega
      rw [h12]; simp [wrap64]
  have hmin : min qs.length 64 = qs.length := Nat.min_eq_left (by omega)
  have H37 := Lib.hid (fun u W (h : Ext w W) (hu : Reads W u (ints qs)) => family37_ok S L ms qs _ u W hv (hR.ext h) hu hq)
  have h40f := fun u t W (h : Ext w W) (hu : Reads W u (ints qs)) (ht : Reads W t (ints (familyL ms L qs))) => checkFam40_ok S L ms qs _ _ u t W hv (hR.ext h) hu hq ht
  have h39f := fun u t W (h : Ext w W) (hu : Reads W u (ints qs)) (ht : Reads W t (ints (familyL ms L qs))) (hc : CapOk t) => checkFam39_ok S L ms qs _ _ u t W hv (hR.ext h) hu hq ht hc
  rw [check_family hv hq hfam] at h40f h39f
  have H40 := Lib.hid h40f; have H39 := Lib.hid h39f
  have H50 := Lib.hid (fun W => bits50c g hg4 W)
  have H39g := Lib.hid (fun u t W (h : Ext w W) (hu : Reads W u (ints qs)) (ht : Reads W t (ints (bitsL g))) (hc : CapOk t) => checkFam39_ok S L ms qs _ _ u t W hv (hR.ext h) hu hq ht hc)
  have HCB := Lib.hid (check_bits hv hq hgN)
  have HGV := Lib.hid (fun h : FamOK ms L qs (bitsL g) => family_given hv hq h)
  have H51 := Lib.hid (fun (h : (bitsL g).length = (familyL ms L qs).length) u t W (hu : Reads W u (ints (bitsL g))) (ht : Reads W t (ints (familyL ms L qs))) => before51 _ _ u t W hu ht h)
  obtain ⟨A, hA⟩ : ∃ A : Bool, clash1 ms L = none ↔ A = true := by
    cases h : clash1 ms L with
    | none => exact ⟨true, by simp⟩
    | some p => exact ⟨false, by simp⟩
  have H26 := Lib.hid (fun W (h : Ext w W) => apart_b S L ms A _ W hv (hR.ext h) hA)
  have H52 := Lib.hid (fun u t W (hu : Reads W u (ints qs)) (ht : Reads W t (ints (familyL ms L qs))) => picked52 qs _ u t W hu ht hfin)
  have H26x := Lib.hid (fun (hAt : A = true) (hl : ms.length + (familyL ms L qs).length ≤ 12) u W (hu : Reads W u (ints (ms ++ (familyL ms L qs).map (mAt qs)))) =>
    apart_b S L _ true u W (valid_app hv hq hfin hl) hu ⟨fun _ => rfl, fun _ => apart_together hv hq (hA.2 hAt) hfam hl⟩)
  have H37d := Lib.hid (fun u W (h : Ext w W) (hu : Reads W u (ints qs.dropLast)) => family37_ok S L ms qs.dropLast _ u W hv (hR.ext h) hu (valid_drop hq))
  have hf0 : qs.length = 0 → (familyL ms L qs).length = 0 := by
    intro h
    cases hl : familyL ms L qs with
    | nil => rfl
    | cons i t => have := hfin i (by rw [hl]; simp); omega
  have HPM := Lib.hid (show ((familyL ms L qs).map (mAt qs)).length = (familyL ms L qs).length from by simp)
  generalize familyL ms L qs = fam at *
  generalize familyL ms L qs.dropLast = famd at *
  generalize bitsL g = gl at *
  have HR := Lib.hid hR
  obtain ⟨n0, hn0⟩ : ∃ n0, n0 = ms.length := ⟨_, rfl⟩
  obtain ⟨ny, hny⟩ : ∃ ny, ny = ns.length := ⟨_, rfl⟩
  obtain ⟨n, hn⟩ : ∃ n, n = qs.length := ⟨_, rfl⟩
  obtain ⟨nf, hnf⟩ : ∃ nf, nf = fam.length := ⟨_, rfl⟩
  obtain ⟨nd, hnd⟩ : ∃ nd, nd = famd.length := ⟨_, rfl⟩
  obtain ⟨ng, hng⟩ : ∃ ng, ng = gl.length := ⟨_, rfl⟩
  have HN0 := Lib.hid hn0; have HN := Lib.hid hn; have HNF := Lib.hid hnf; have HND := Lib.hid hnd; have HNG := Lib.hid hng
  rw [← hn0] at hn12 HR HF H49 H37 H40 H39 H39g H26 H37d E0 P0 H26x ⊢
  rw [← hny] at H49 h40 ⊢
  rw [← hn] at hq12 hwp hmin hf0 hfl
  rw [← hnf] at hmore hf0 H26x H51 hfl
  rw [← hnd] at hmore
  rw [← hng] at H51
  have hgv : FamOK ms L qs gl → ng ≤ nf ∧ (ng = nf → lexlt gl fam = false) := fun h => by rw [hng, hnf]; exact HGV.out h
  have HGW := Lib.hid hgv
  have hnf12 : nf ≤ 12 ∨ True := .inr trivial
  have hd40 : decide ((40 : Int) < (ny : Int)) = false := decide_eq_false (by omega)
  have hd40n : ¬ 40 < ny := by omega
  have hFn : fam.length ≤ 5000 ∨ True := .inr trivial
  clear hf hR hU hb hv hq hfam hfin hN hgN hA hn0 hny hn hnf hnd hng h40f h39f hgv hnf12 hFn hg
  have HX0 := Lib.hid E0.out
  go_enter Try.func13, Try.ntmps13
  go_wp2_with fail
  refine HF.out.mono ?_
  rintro e w1 ⟨rfl, hb⟩
  obtain ⟨g1, g2, g3⟩ := P0.out.ext hb
  have HE := Lib.hid (E0.out.trans hb); clear hb
  go_wp2_with fail
  refine (H49.out _ HE.out).mono ?_
  rintro e w2 ⟨u1, rfl, ⟨hu1, hcp1⟩, hb⟩
  obtain ⟨g1, g2, g3⟩ := OffAt.ext ⟨g1, g2, g3⟩ hb
  replace HE := Lib.hid (HE.out.trans hb); clear hb
  obtain ⟨hl1, a1, cap1, rfl⟩ := hu1.shape
  rw [ints_length, ← HN.out] at hu1 hl1 hcp1 ⊢
  have R1 := Lib.hid hu1; have C1 := Lib.hid hcp1; clear hu1 hcp1
  go_wp2_with fail
  refine (H37.out _ _ HE.out R1.out).mono ?_
  rintro e w3 ⟨u2, rfl, ⟨hu2, hc2⟩, hb⟩
  obtain ⟨g1, g2, g3⟩ := OffAt.ext ⟨g1, g2, g3⟩ hb
  replace HE := Lib.hid (HE.out.trans hb)
  replace R1 := Lib.hid (R1.out.ext hb); clear hb
  obtain ⟨hl2, a2, cap2, rfl⟩ := hu2.shape
  rw [ints_length, ← HNF.out] at hu2 hl2 hc2 ⊢
  have R2 := Lib.hid hu2; have C2 := Lib.hid hc2; clear hu2 hc2
  go_wp2_with fail
  refine (H40.out _ _ _ HE.out R1.out R2.out).mono ?_
  rintro e w4 ⟨rfl, hb⟩
  obtain ⟨g1, g2, g3⟩ := OffAt.ext ⟨g1, g2, g3⟩ hb
  replace HE := Lib.hid (HE.out.trans hb)
  replace R1 := Lib.hid (R1.out.ext hb)
  replace R2 := Lib.hid (R2.out.ext hb); clear hb
  go_wp2_with fail
  refine (H39.out _ _ _ HE.out R1.out R2.out C2.out).mono ?_
  rintro e w5 ⟨rfl, hb⟩
  obtain ⟨g1, g2, g3⟩ := OffAt.ext ⟨g1, g2, g3⟩ hb
  replace HE := Lib.hid (HE.out.trans hb)
  replace R1 := Lib.hid (R1.out.ext hb)
  replace R2 := Lib.hid (R2.out.ext hb); clear hb
  go_wp2_with fail
  refine (H50.out _).mono ?_
  rintro e w6 ⟨u3, rfl, ⟨hu3, hc3⟩, hb⟩
  obtain ⟨g1, g2, g3⟩ := OffAt.ext ⟨g1, g2, g3⟩ hb
  replace HE := Lib.hid (HE.out.trans hb)
  replace R1 := Lib.hid (R1.out.ext hb)
  replace R2 := Lib.hid (R2.out.ext hb); clear hb
  obtain ⟨hl3, a3, cap3, rfl⟩ := hu3.shape
  rw [ints_length, ← HNG.out] at hu3 hl3 hc3 ⊢
  have R3 := Lib.hid hu3; have C3 := Lib.hid hc3; clear hu3 hc3
  go_wp2_with fail
  have h39 := H39g.out _ _ _ HE.out R1.out R3.out C3.out
  rcases HCB.out with ⟨hk, hfk⟩ | hk
  · rw [hk] at h39
    obtain ⟨hgl, hgx⟩ := HGW.out hfk
    have HK := Lib.hid h39
    have hgl2 : ¬ nf < ng := by omega
    clear h39 hk hfk
    by_cases hgn : ng = nf
    · have hlx := hgx hgn
      have heq : ((ng : Int) == (nf : Int)) = true := by simp [hgn]
      have h51 := H51.out hgn
      rw [hlx] at h51
      have HB := Lib.hid h51
      clear hgx hlx h51 hgn
      refine HK.out.mono ?_
      rintro e w7 ⟨rfl, hb⟩
      obtain ⟨g1, g2, g3⟩ := OffAt.ext ⟨g1, g2, g3⟩ hb
      replace HE := Lib.hid (HE.out.trans hb)
      replace R1 := Lib.hid (R1.out.ext hb)
      replace R2 := Lib.hid (R2.out.ext hb)
      replace R3 := Lib.hid (R3.out.ext hb); clear hb
      go_wp2_with fail
      refine (HB.out _ _ _ R3.out R2.out).mono ?_
      rintro e w8 ⟨rfl, hb⟩
      obtain ⟨g1, g2, g3⟩ := OffAt.ext ⟨g1, g2, g3⟩ hb
      replace HE := Lib.hid (HE.out.trans hb)
      replace R1 := Lib.hid (R1.out.ext hb)
      replace R2 := Lib.hid (R2.out.ext hb); clear hb
      go_wp2_with fail
      refine (H26.out _ HE.out).mono ?_
      rintro e w9 ⟨y1, y2, rfl, hb⟩
      obtain ⟨g1, g2, g3⟩ := OffAt.ext ⟨g1, g2, g3⟩ hb
      replace HE := Lib.hid (HE.out.trans hb)
      replace R1 := Lib.hid (R1.out.ext hb)
      replace R2 := Lib.hid (R2.out.ext hb); clear hb
      cases A
      · simp only [codeB, Bool.false_eq_true, if_false]
        by_cases hn0' : n = 0
        · have hnf0 := hf0 hn0'
          have hd1 : ((n : Int) == 0) = true := by simp [hn0']
          have hd2 : ((nf : Int) == 0) = true := by simp [hnf0]
          clear hn0' hnf0
          go_wp2_with fail
          refine (works18 _).mono ?_
          rintro e wz ⟨rfl, hb⟩
          replace HE := Lib.hid (HE.out.trans hb); clear hb
          go_wp2
          go_ret
          exact ⟨rfl, HE.out⟩
        · have hd1 := len_nil_false hn0'
          obtain ⟨m, hm⟩ : ∃ m, n = m + 1 := ⟨n - 1, by omega⟩
          obtain ⟨q0, hq0⟩ := get_some (show 0 < qs.length by rw [← HN.out]; omega)
          obtain ⟨b1, off1, hbo, -, -⟩ := R1.out.atN hq0
          subst hbo
          have hcap := CapOk.le C1.out
          have hma : (0 : Int) ≤ (m : Int) := by omega
          have hmb : (m : Int) ≤ (cap1 : Int) := by omega
          have hmw : IntKind.i64.wrap (m : Int) = (m : Int) := wrapi64 _ (by omega)
          have RD := Lib.hid (fun W (h : Ext w9 W) => show Reads W (.slice (some ⟨b1, off1, none⟩) m cap1) (ints qs.dropLast) from by
            have h1 := (R1.out.ext h).take m (by omega)
            have h2 : (ints qs).take m = ints qs.dropLast := by
              unfold ints
              rw [List.dropLast_eq_take, List.map_take, show qs.length - 1 = m from by rw [← HN.out]; omega]
            rwa [h2] at h1)
          clear hn0' hq0
          subst hm
          go_wp2
          have KP : ∀ X X' : World, (X.cell? ⟨w.heap.size, 0, none⟩ = some (.int .i64 (S : Int)) ∧ X.cell? ⟨w.heap.size, 1, none⟩ = some (.int .i64 (L : Int)) ∧ X.cell? ⟨w.heap.size, 2, none⟩ = some (.slice a n0 cap) ∧ Hid (Ext w9 X)) → Ext X X' → (X'.cell? ⟨w.heap.size, 0, none⟩ = some (.int .i64 (S : Int)) ∧ X'.cell? ⟨w.heap.size, 1, none⟩ = some (.int .i64 (L : Int)) ∧ X'.cell? ⟨w.heap.size, 2, none⟩ = some (.slice a n0 cap) ∧ Hid (Ext w9 X')) :=
            fun X X' h hb => ⟨cell_ext hb h.1, cell_ext hb h.2.1, cell_ext hb h.2.2.1, Ext.trans h.2.2.2.out hb⟩
          have HKP := Lib.hid KP; clear KP
          go_region_held3 (fun X => X.cell? ⟨w.heap.size, 0, none⟩ = some (.int .i64 (S : Int)) ∧ X.cell? ⟨w.heap.size, 1, none⟩ = some (.int .i64 (L : Int)) ∧ X.cell? ⟨w.heap.size, 2, none⟩ = some (.slice a n0 cap) ∧ Hid (Ext w9 X))
            (first | assumption | exact ⟨g1, g2, g3, Ext.drew (Ext.refl _)⟩ | exact HKP.out _ _ (by assumption) hb | fail)
            (first | (go_at_call 37; refine (H37d.out _ _ (HE.out.trans (of_and4 (by assumption))) (RD.out _ (of_and4 (by assumption)))).mono ?_; rintro e w' ⟨ud, rfl, ⟨hud, -⟩, hb⟩) | fail)
          all_goals
            rename_i hk
            have HK := Lib.hid (HE.out.trans (of_and4 hk))
            obtain ⟨hld, ad, capd, rfl⟩ := hud.shape
            rw [ints_length, ← HND.out]
            have hm1 : nd ≤ nf := hmore.1
            have hm2 : nf ≤ nd + 1 := hmore.2
            have hm3 : ¬ nf < nd := by omega
            have hm4 : ¬ nd + 1 < nf := by omega
            have hm5 : decide ((nd : Int) ≤ (nf : Int)) = true := decide_eq_true (by omega)
            have hm6 : decide ((nf : Int) ≤ (nd : Int) + 1) = true := decide_eq_true (by omega)
            clear hk hud
            go_wp2_with fail
            refine (works18 _).mono ?_
            rintro e wz ⟨rfl, hb⟩
            replace HK := Lib.hid (HK.out.trans hb); clear hb
            go_wp2
            go_ret
            exact ⟨rfl, HK.out⟩
      · simp only [codeB, if_true]
        try clear hwp
        try clear hmin
        try clear e6
        have hws := wrap_sum n0 nf (by omega)
        have hws2 := wrapi_sum n0 nf (by omega)
        by_cases h12 : n0 + nf ≤ 12
        · have hle1 : decide ((n0 : Int) + (nf : Int) ≤ 12) = true := decide_eq_true (by omega)
          have hle2 : ¬ (12 : Int) < (n0 : Int) + (nf : Int) := by omega
          have hle3 : ¬ 12 < n0 + nf := by omega
          have hle4 : (n0 : Int) + (nf : Int) ≤ 12 := by omega
          have hE1 := (Ext.refl w9).alloc (.cells #[.int .i64 (S : Int), .int .i64 (L : Int), .slice a n0 cap] 24)
          have hE2 := hE1.alloc (.cells #[] 3)
          have hb1 := block_ext ((Ext.refl _).alloc (.cells #[] 3)) (heap_alloc_new w9 (.cells #[.int .i64 (S : Int), .int .i64 (L : Int), .slice a n0 cap] 24))
          have hO0 := World.ownsRow_made (w9.alloc (.cells #[.int .i64 (S : Int), .int .i64 (L : Int), .slice a n0 cap] 24)) (base := w9.heap.size + 1) (e := 3) (size := 1) #[] 0 (by simp [World.size_alloc]) (by simp) rfl
          simp only [World.size_alloc] at hO0
          have hm3 := cell_ext hE2 g3
          have HE2 := Lib.hid hE2; have HB1 := Lib.hid hb1; have HO0 := Lib.hid hO0
          clear hE1 hE2 hb1 hO0
          go_wp2_with (at_builtin; refine appendS _ (w9.heap.size + 1) [] (ints ms) _ _ _ _ rfl rfl rfl HO0.out (by simp [World.size_alloc]) (by simp) rfl (HR.out.ext (HE.out.trans HE2.out)) ?_; intro v1 w10 hO3 hB3; have HO3 := Lib.hid hO3; have HB3 := Lib.hid hB3; clear hO3 hB3)
          have HX10 := Lib.hid (show Ext w9 w10 from Below.trans HE2.out (HB3.out.mono (by omega)))
          refine (H52.out _ _ _ (R1.out.ext HX10.out) (R2.out.ext HX10.out)).mono ?_
          rintro e w11 ⟨u5, rfl, hu5, hb⟩
          have hs10 : w9.heap.size + 1 ≤ w10.heap.size := Nat.le_trans (by simp [World.size_alloc]) HB3.out.size
          have hs11 : w9.heap.size + 1 ≤ w11.heap.size := Nat.le_trans hs10 (Below.size hb)
          have HO4 := Lib.hid (ownsI_ext HO3.out hb)
          have HB4 := Lib.hid (Below.mono hb hs10)
          have HX11 := Lib.hid (HX10.out.trans hb)
          have HS11 := Lib.hid hs11
          obtain ⟨hl5, a5, cap5, rfl⟩ := hu5.shape
          have HU5 := Lib.hid hu5
          clear hu5 hb hs10 hs11
          go_wp2_with (at_builtin; refine appendS _ (w9.heap.size + 1) _ (ints (fam.map (mAt qs))) _ _ _ _ rfl rfl rfl HO4.out HS11.out (by simp [ints]; have := HN0.out; omega) rfl HU5.out ?_
                       intro v2 w12 hO5 hB5
                       rw [List.nil_append] at hO5
                       have k1 := (hB5.block w9.heap.size (by omega)).trans ((HB4.out.block w9.heap.size (by omega)).trans ((HB3.out.block w9.heap.size (by omega)).trans HB1.out))
                       have HK1 := Lib.hid k1
                       have q0 := cell_of_row _ _ 0 _ _ _ k1
                       have q1 := cell_of_row _ _ 1 _ _ _ k1
                       have q2 := cell_of_row _ _ 2 _ _ _ k1
                       have f2 := frozen_of_row _ _ 2 _ _ k1
                       simp at q0 q1 q2
                       have r5 := hO5.reads (by simp [ints]; have := HN0.out; have := HNF.out; omega)
                       have hx12 := Below.trans HX11.out (hB5.mono (by omega))
                       have HX12 := Lib.hid hx12
                       have HO5 := Lib.hid hO5
                       clear hO5 hB5 k1 hx12
                       obtain ⟨hl6, a6, cap6, rfl⟩ := r5.shape
                       have hn6 : (ints ms ++ ints (fam.map (mAt qs))).length = n0 + nf := by rw [List.length_append, ints_length, ints_length, HPM.out, ← HN0.out, ← HNF.out]
                       rw [hn6] at hl6 ⊢
                       have hn6c : (((n0 + nf : Nat)) : Int) = (n0 : Int) + (nf : Int) := by omega
                       have r6 := HO5.out.set_below (b := w9.heap.size) (o := 2) (by omega) (.slice a6 (n0 + nf) cap6)
                       have r7 := r6.reads (by simp [ints]; have := HN0.out; have := HNF.out; omega)
                       rw [hn6, show ints ms ++ ints (fam.map (mAt qs)) = ints (ms ++ fam.map (mAt qs)) from by simp [ints]] at r7
                       have HR7 := Lib.hid r7
                       have hk2 := set_row2 HK1.out (.slice a6 (n0 + nf) cap6)
                       have e0 := cell_of_row _ _ 0 _ _ _ hk2
                       have e1 := cell_of_row _ _ 1 _ _ _ hk2
                       have e2 := cell_of_row _ _ 2 _ _ _ hk2
                       simp at e0 e1 e2
                       have HX13 := Lib.hid (show Ext w9 (w12.setCell ⟨w9.heap.size, 2, none⟩ (.slice a6 (n0 + nf) cap6)) from Below.setCell HX12.out (Nat.le_refl _) _)
                       clear r5 r6 r7 hk2 hn6 hl6)
          refine (H26x.out (by trivial) h12 _ _ HR7.out).mono ?_
          rintro e wA ⟨y3, y4, rfl, hb⟩
          have HXA := Lib.hid (HX13.out.trans hb)
          obtain ⟨g1, g2, g3⟩ := OffAt.ext ⟨g1, g2, g3⟩ HXA.out
          replace HE := Lib.hid (HE.out.trans HXA.out)
          replace R1 := Lib.hid (R1.out.ext HXA.out)
          replace R2 := Lib.hid (R2.out.ext HXA.out); clear hb
          simp only [codeB, if_true]
          by_cases hn0' : n = 0
          · have hnf0 := hf0 hn0'
            have hd1 : ((n : Int) == 0) = true := by simp [hn0']
            have hd2 : ((nf : Int) == 0) = true := by simp [hnf0]
            clear hn0' hnf0
            go_wp2_with fail
            refine (works18 _).mono ?_
            rintro e wz ⟨rfl, hb⟩
            replace HE := Lib.hid (HE.out.trans hb); clear hb
            go_wp2
            go_ret
            exact ⟨rfl, HE.out⟩
          · have hd1 := len_nil_false hn0'
            obtain ⟨m, hm⟩ : ∃ m, n = m + 1 := ⟨n - 1, by omega⟩
            obtain ⟨q0, hq0⟩ := get_some (show 0 < qs.length by rw [← HN.out]; omega)
            obtain ⟨b1, off1, hbo, -, -⟩ := R1.out.atN hq0
            subst hbo
            have hcap := CapOk.le C1.out
            have hma : (0 : Int) ≤ (m : Int) := by omega
            have hmb : (m : Int) ≤ (cap1 : Int) := by omega
            have hmw : IntKind.i64.wrap (m : Int) = (m : Int) := wrapi64 _ (by omega)
            have RD := Lib.hid (fun W (h : Ext wA W) => show Reads W (.slice (some ⟨b1, off1, none⟩) m cap1) (ints qs.dropLast) from by
              have h1 := (R1.out.ext h).take m (by omega)
              have h2 : (ints qs).take m = ints qs.dropLast := by
                unfold ints
                rw [List.dropLast_eq_take, List.map_take, show qs.length - 1 = m from by rw [← HN.out]; omega]
              rwa [h2] at h1)
            clear hn0' hq0
            subst hm
            go_wp2
            have KP : ∀ X X' : World, (X.cell? ⟨w.heap.size, 0, none⟩ = some (.int .i64 (S : Int)) ∧ X.cell? ⟨w.heap.size, 1, none⟩ = some (.int .i64 (L : Int)) ∧ X.cell? ⟨w.heap.size, 2, none⟩ = some (.slice a n0 cap) ∧ Hid (Ext wA X)) → Ext X X' → (X'.cell? ⟨w.heap.size, 0, none⟩ = some (.int .i64 (S : Int)) ∧ X'.cell? ⟨w.heap.size, 1, none⟩ = some (.int .i64 (L : Int)) ∧ X'.cell? ⟨w.heap.size, 2, none⟩ = some (.slice a n0 cap) ∧ Hid (Ext wA X')) :=
              fun X X' h hb => ⟨cell_ext hb h.1, cell_ext hb h.2.1, cell_ext hb h.2.2.1, Ext.trans h.2.2.2.out hb⟩
            have HKP := Lib.hid KP; clear KP
            go_region_held3 (fun X => X.cell? ⟨w.heap.size, 0, none⟩ = some (.int .i64 (S : Int)) ∧ X.cell? ⟨w.heap.size, 1, none⟩ = some (.int .i64 (L : Int)) ∧ X.cell? ⟨w.heap.size, 2, none⟩ = some (.slice a n0 cap) ∧ Hid (Ext wA X))
              (first | assumption | exact ⟨g1, g2, g3, Ext.drew (Ext.refl _)⟩ | exact HKP.out _ _ (by assumption) hb | fail)
              (first | (go_at_call 37; refine (H37d.out _ _ (HE.out.trans (of_and4 (by assumption))) (RD.out _ (of_and4 (by assumption)))).mono ?_; rintro e w' ⟨ud, rfl, ⟨hud, -⟩, hb⟩) | fail)
            all_goals
              rename_i hk
              have HK := Lib.hid (HE.out.trans (of_and4 hk))
              obtain ⟨hld, ad, capd, rfl⟩ := hud.shape
              rw [ints_length, ← HND.out]
              have hm1 : nd ≤ nf := hmore.1
              have hm2 : nf ≤ nd + 1 := hmore.2
              have hm3 : ¬ nf < nd := by omega
              have hm4 : ¬ nd + 1 < nf := by omega
              have hm5 : decide ((nd : Int) ≤ (nf : Int)) = true := decide_eq_true (by omega)
              have hm6 : decide ((nf : Int) ≤ (nd : Int) + 1) = true := decide_eq_true (by omega)
              clear hk hud
              go_wp2_with fail
              refine (works18 _).mono ?_
              rintro e wz ⟨rfl, hb⟩
              replace HK := Lib.hid (HK.out.trans hb); clear hb
              go_wp2
              go_ret
              exact ⟨rfl, HK.out⟩
        
        · have hle1 : decide ((n0 : Int) + (nf : Int) ≤ 12) = false := decide_eq_false (by omega)
          have hle2 : (12 : Int) < (n0 : Int) + (nf : Int) := by omega
          have hle4 : ¬ (n0 : Int) + (nf : Int) ≤ 12 := by omega
          by_cases hn0' : n = 0
          · have hnf0 := hf0 hn0'
            have hd1 : ((n : Int) == 0) = true := by simp [hn0']
            have hd2 : ((nf : Int) == 0) = true := by simp [hnf0]
            clear hn0' hnf0
            go_wp2_with fail
            refine (works18 _).mono ?_
            rintro e wz ⟨rfl, hb⟩
            replace HE := Lib.hid (HE.out.trans hb); clear hb
            go_wp2
            go_ret
            exact ⟨rfl, HE.out⟩
          · have hd1 := len_nil_false hn0'
            obtain ⟨m, hm⟩ : ∃ m, n = m + 1 := ⟨n - 1, by omega⟩
            obtain ⟨q0, hq0⟩ := get_some (show 0 < qs.length by rw [← HN.out]; omega)
            obtain ⟨b1, off1, hbo, -, -⟩ := R1.out.atN hq0
            subst hbo
            have hcap := CapOk.le C1.out
            have hma : (0 : Int) ≤ (m : Int) := by omega
            have hmb : (m : Int) ≤ (cap1 : Int) := by omega
            have hmw : IntKind.i64.wrap (m : Int) = (m : Int) := wrapi64 _ (by omega)
            have RD := Lib.hid (fun W (h : Ext w9 W) => show Reads W (.slice (some ⟨b1, off1, none⟩) m cap1) (ints qs.dropLast) from by
              have h1 := (R1.out.ext h).take m (by omega)
              have h2 : (ints qs).take m = ints qs.dropLast := by
                unfold ints
                rw [List.dropLast_eq_take, List.map_take, show qs.length - 1 = m from by rw [← HN.out]; omega]
              rwa [h2] at h1)
            clear hn0' hq0
            subst hm
            go_wp2
            have KP : ∀ X X' : World, (X.cell? ⟨w.heap.size, 0, none⟩ = some (.int .i64 (S : Int)) ∧ X.cell? ⟨w.heap.size, 1, none⟩ = some (.int .i64 (L : Int)) ∧ X.cell? ⟨w.heap.size, 2, none⟩ = some (.slice a n0 cap) ∧ Hid (Ext w9 X)) → Ext X X' → (X'.cell? ⟨w.heap.size, 0, none⟩ = some (.int .i64 (S : Int)) ∧ X'.cell? ⟨w.heap.size, 1, none⟩ = some (.int .i64 (L : Int)) ∧ X'.cell? ⟨w.heap.size, 2, none⟩ = some (.slice a n0 cap) ∧ Hid (Ext w9 X')) :=
              fun X X' h hb => ⟨cell_ext hb h.1, cell_ext hb h.2.1, cell_ext hb h.2.2.1, Ext.trans h.2.2.2.out hb⟩
            have HKP := Lib.hid KP; clear KP
            go_region_held3 (fun X => X.cell? ⟨w.heap.size, 0, none⟩ = some (.int .i64 (S : Int)) ∧ X.cell? ⟨w.heap.size, 1, none⟩ = some (.int .i64 (L : Int)) ∧ X.cell? ⟨w.heap.size, 2, none⟩ = some (.slice a n0 cap) ∧ Hid (Ext w9 X))
              (first | assumption | exact ⟨g1, g2, g3, Ext.drew (Ext.refl _)⟩ | exact HKP.out _ _ (by assumption) hb | fail)
              (first | (go_at_call 37; refine (H37d.out _ _ (HE.out.trans (of_and4 (by assumption))) (RD.out _ (of_and4 (by assumption)))).mono ?_; rintro e w' ⟨ud, rfl, ⟨hud, -⟩, hb⟩) | fail)
            all_goals
              rename_i hk
              have HK := Lib.hid (HE.out.trans (of_and4 hk))
              obtain ⟨hld, ad, capd, rfl⟩ := hud.shape
              rw [ints_length, ← HND.out]
              have hm1 : nd ≤ nf := hmore.1
              have hm2 : nf ≤ nd + 1 := hmore.2
              have hm3 : ¬ nf < nd := by omega
              have hm4 : ¬ nd + 1 < nf := by omega
              have hm5 : decide ((nd : Int) ≤ (nf : Int)) = true := decide_eq_true (by omega)
              have hm6 : decide ((nf : Int) ≤ (nd : Int) + 1) = true := decide_eq_true (by omega)
              clear hk hud
              go_wp2_with fail
              refine (works18 _).mono ?_
              rintro e wz ⟨rfl, hb⟩
              replace HK := Lib.hid (HK.out.trans hb); clear hb
              go_wp2
              go_ret
              exact ⟨rfl, HK.out⟩
    · have heq : ((ng : Int) == (nf : Int)) = false := by simp; omega
      clear hgx
      refine HK.out.mono ?_
      rintro e w8 ⟨rfl, hb⟩
      obtain ⟨g1, g2, g3⟩ := OffAt.ext ⟨g1, g2, g3⟩ hb
      replace HE := Lib.hid (HE.out.trans hb)
      replace R1 := Lib.hid (R1.out.ext hb)
      replace R2 := Lib.hid (R2.out.ext hb); clear hb
      go_wp2_with fail
      refine (H26.out _ HE.out).mono ?_
      rintro e w9 ⟨y1, y2, rfl, hb⟩
      obtain ⟨g1, g2, g3⟩ := OffAt.ext ⟨g1, g2, g3⟩ hb
      replace HE := Lib.hid (HE.out.trans hb)
      replace R1 := Lib.hid (R1.out.ext hb)
      replace R2 := Lib.hid (R2.out.ext hb); clear hb
      cases A
      · simp only [codeB, Bool.false_eq_true, if_false]
        by_cases hn0' : n = 0
        · have hnf0 := hf0 hn0'
          have hd1 : ((n : Int) == 0) = true := by simp [hn0']
          have hd2 : ((nf : Int) == 0) = true := by simp [hnf0]
          clear hn0' hnf0
          go_wp2_with fail
          refine (works18 _).mono ?_
          rintro e wz ⟨rfl, hb⟩
          replace HE := Lib.hid (HE.out.trans hb); clear hb
          go_wp2
          go_ret
          exact ⟨rfl, HE.out⟩
        · have hd1 := len_nil_false hn0'
          obtain ⟨m, hm⟩ : ∃ m, n = m + 1 := ⟨n - 1, by omega⟩
          obtain ⟨q0, hq0⟩ := get_some (show 0 < qs.length by rw [← HN.out]; omega)
          obtain ⟨b1, off1, hbo, -, -⟩ := R1.out.atN hq0
          subst hbo
          have hcap := CapOk.le C1.out
          have hma : (0 : Int) ≤ (m : Int) := by omega
          have hmb : (m : Int) ≤ (cap1 : Int) := by omega
          have hmw : IntKind.i64.wrap (m : Int) = (m : Int) := wrapi64 _ (by omega)
          have RD := Lib.hid (fun W (h : Ext w9 W) => show Reads W (.slice (some ⟨b1, off1, none⟩) m cap1) (ints qs.dropLast) from by
            have h1 := (R1.out.ext h).take m (by omega)
            have h2 : (ints qs).take m = ints qs.dropLast := by
              unfold ints
              rw [List.dropLast_eq_take, List.map_take, show qs.length - 1 = m from by rw [← HN.out]; omega]
            rwa [h2] at h1)
          clear hn0' hq0
          subst hm
          go_wp2
          have KP : ∀ X X' : World, (X.cell? ⟨w.heap.size, 0, none⟩ = some (.int .i64 (S : Int)) ∧ X.cell? ⟨w.heap.size, 1, none⟩ = some (.int .i64 (L : Int)) ∧ X.cell? ⟨w.heap.size, 2, none⟩ = some (.slice a n0 cap) ∧ Hid (Ext w9 X)) → Ext X X' → (X'.cell? ⟨w.heap.size, 0, none⟩ = some (.int .i64 (S : Int)) ∧ X'.cell? ⟨w.heap.size, 1, none⟩ = some (.int .i64 (L : Int)) ∧ X'.cell? ⟨w.heap.size, 2, none⟩ = some (.slice a n0 cap) ∧ Hid (Ext w9 X')) :=
            fun X X' h hb => ⟨cell_ext hb h.1, cell_ext hb h.2.1, cell_ext hb h.2.2.1, Ext.trans h.2.2.2.out hb⟩
          have HKP := Lib.hid KP; clear KP
          go_region_held3 (fun X => X.cell? ⟨w.heap.size, 0, none⟩ = some (.int .i64 (S : Int)) ∧ X.cell? ⟨w.heap.size, 1, none⟩ = some (.int .i64 (L : Int)) ∧ X.cell? ⟨w.heap.size, 2, none⟩ = some (.slice a n0 cap) ∧ Hid (Ext w9 X))
            (first | assumption | exact ⟨g1, g2, g3, Ext.drew (Ext.refl _)⟩ | exact HKP.out _ _ (by assumption) hb | fail)
            (first | (go_at_call 37; refine (H37d.out _ _ (HE.out.trans (of_and4 (by assumption))) (RD.out _ (of_and4 (by assumption)))).mono ?_; rintro e w' ⟨ud, rfl, ⟨hud, -⟩, hb⟩) | fail)
          all_goals
            rename_i hk
            have HK := Lib.hid (HE.out.trans (of_and4 hk))
            obtain ⟨hld, ad, capd, rfl⟩ := hud.shape
            rw [ints_length, ← HND.out]
            have hm1 : nd ≤ nf := hmore.1
            have hm2 : nf ≤ nd + 1 := hmore.2
            have hm3 : ¬ nf < nd := by omega
            have hm4 : ¬ nd + 1 < nf := by omega
            have hm5 : decide ((nd : Int) ≤ (nf : Int)) = true := decide_eq_true (by omega)
            have hm6 : decide ((nf : Int) ≤ (nd : Int) + 1) = true := decide_eq_true (by omega)
            clear hk hud
            go_wp2_with fail
            refine (works18 _).mono ?_
            rintro e wz ⟨rfl, hb⟩
            replace HK := Lib.hid (HK.out.trans hb); clear hb
            go_wp2
            go_ret
            exact ⟨rfl, HK.out⟩
      · simp only [codeB, if_true]
        try clear hwp
        try clear hmin
        try clear e6
        have hws := wrap_sum n0 nf (by omega)
        have hws2 := wrapi_sum n0 nf (by omega)
        by_cases h12 : n0 + nf ≤ 12
        · have hle1 : decide ((n0 : Int) + (nf : Int) ≤ 12) = true := decide_eq_true (by omega)
          have hle2 : ¬ (12 : Int) < (n0 : Int) + (nf : Int) := by omega
          have hle3 : ¬ 12 < n0 + nf := by omega
          have hle4 : (n0 : Int) + (nf : Int) ≤ 12 := by omega
          have hE1 := (Ext.refl w9).alloc (.cells #[.int .i64 (S : Int), .int .i64 (L : Int), .slice a n0 cap] 24)
          have hE2 := hE1.alloc (.cells #[] 3)
          have hb1 := block_ext ((Ext.refl _).alloc (.cells #[] 3)) (heap_alloc_new w9 (.cells #[.int .i64 (S : Int), .int .i64 (L : Int), .slice a n0 cap] 24))
          have hO0 := World.ownsRow_made (w9.alloc (.cells #[.int .i64 (S : Int), .int .i64 (L : Int), .slice a n0 cap] 24)) (base := w9.heap.size + 1) (e := 3) (size := 1) #[] 0 (by simp [World.size_alloc]) (by simp) rfl
          simp only [World.size_alloc] at hO0
          have hm3 := cell_ext hE2 g3
          have HE2 := Lib.hid hE2; have HB1 := Lib.hid hb1; have HO0 := Lib.hid hO0
          clear hE1 hE2 hb1 hO0
          go_wp2_with (at_builtin; refine appendS _ (w9.heap.size + 1) [] (ints ms) _ _ _ _ rfl rfl rfl HO0.out (by simp [World.size_alloc]) (by simp) rfl (HR.out.ext (HE.out.trans HE2.out)) ?_; intro v1 w10 hO3 hB3; have HO3 := Lib.hid hO3; have HB3 := Lib.hid hB3; clear hO3 hB3)
          have HX10 := Lib.hid (show Ext w9 w10 from Below.trans HE2.out (HB3.out.mono (by omega)))
          refine (H52.out _ _ _ (R1.out.ext HX10.out) (R2.out.ext HX10.out)).mono ?_
          rintro e w11 ⟨u5, rfl, hu5, hb⟩
          have hs10 : w9.heap.size + 1 ≤ w10.heap.size := Nat.le_trans (by simp [World.size_alloc]) HB3.out.size
          have hs11 : w9.heap.size + 1 ≤ w11.heap.size := Nat.le_trans hs10 (Below.size hb)
          have HO4 := Lib.hid (ownsI_ext HO3.out hb)
          have HB4 := Lib.hid (Below.mono hb hs10)
          have HX11 := Lib.hid (HX10.out.trans hb)
          have HS11 := Lib.hid hs11
          obtain ⟨hl5, a5, cap5, rfl⟩ := hu5.shape
          have HU5 := Lib.hid hu5
          clear hu5 hb hs10 hs11
          go_wp2_with (at_builtin; refine appendS _ (w9.heap.size + 1) _ (ints (fam.map (mAt qs))) _ _ _ _ rfl rfl rfl HO4.out HS11.out (by simp [ints]; have := HN0.out; omega) rfl HU5.out ?_
                       intro v2 w12 hO5 hB5
                       rw [List.nil_append] at hO5
                       have k1 := (hB5.block w9.heap.size (by omega)).trans ((HB4.out.block w9.heap.size (by omega)).trans ((HB3.out.block w9.heap.size (by omega)).trans HB1.out))
                       have HK1 := Lib.hid k1
                       have q0 := cell_of_row _ _ 0 _ _ _ k1
                       have q1 := cell_of_row _ _ 1 _ _ _ k1
                       have q2 := cell_of_row _ _ 2 _ _ _ k1
                       have f2 := frozen_of_row _ _ 2 _ _ k1
                       simp at q0 q1 q2
                       have r5 := hO5.reads (by simp [ints]; have := HN0.out; have := HNF.out; omega)
                       have hx12 := Below.trans HX11.out (hB5.mono (by omega))
                       have HX12 := Lib.hid hx12
                       have HO5 := Lib.hid hO5
                       clear hO5 hB5 k1 hx12
                       obtain ⟨hl6, a6, cap6, rfl⟩ := r5.shape
                       have hn6 : (ints ms ++ ints (fam.map (mAt qs))).length = n0 + nf := by rw [List.length_append, ints_length, ints_length, HPM.out, ← HN0.out, ← HNF.out]
                       rw [hn6] at hl6 ⊢
                       have hn6c : (((n0 + nf : Nat)) : Int) = (n0 : Int) + (nf : Int) := by omega
                       have r6 := HO5.out.set_below (b := w9.heap.size) (o := 2) (by omega) (.slice a6 (n0 + nf) cap6)
                       have r7 := r6.reads (by simp [ints]; have := HN0.out; have := HNF.out; omega)
                       rw [hn6, show ints ms ++ ints (fam.map (mAt qs)) = ints (ms ++ fam.map (mAt qs)) from by simp [ints]] at r7
                       have HR7 := Lib.hid r7
                       have hk2 := set_row2 HK1.out (.slice a6 (n0 + nf) cap6)
                       have e0 := cell_of_row _ _ 0 _ _ _ hk2
                       have e1 := cell_of_row _ _ 1 _ _ _ hk2
                       have e2 := cell_of_row _ _ 2 _ _ _ hk2
                       simp at e0 e1 e2
                       have HX13 := Lib.hid (show Ext w9 (w12.setCell ⟨w9.heap.size, 2, none⟩ (.slice a6 (n0 + nf) cap6)) from Below.setCell HX12.out (Nat.le_refl _) _)
                       clear r5 r6 r7 hk2 hn6 hl6)
          refine (H26x.out (by trivial) h12 _ _ HR7.out).mono ?_
          rintro e wA ⟨y3, y4, rfl, hb⟩
          have HXA := Lib.hid (HX13.out.trans hb)
          obtain ⟨g1, g2, g3⟩ := OffAt.ext ⟨g1, g2, g3⟩ HXA.out
          replace HE := Lib.hid (HE.out.trans HXA.out)
          replace R1 := Lib.hid (R1.out.ext HXA.out)
          replace R2 := Lib.hid (R2.out.ext HXA.out); clear hb
          simp only [codeB, if_true]
          by_cases hn0' : n = 0
          · have hnf0 := hf0 hn0'
            have hd1 : ((n : Int) == 0) = true := by simp [hn0']
            have hd2 : ((nf : Int) == 0) = true := by simp [hnf0]
            clear hn0' hnf0
            go_wp2_with fail
            refine (works18 _).mono ?_
            rintro e wz ⟨rfl, hb⟩
            replace HE := Lib.hid (HE.out.trans hb); clear hb
            go_wp2
            go_ret
            exact ⟨rfl, HE.out⟩
          · have hd1 := len_nil_false hn0'
            obtain ⟨m, hm⟩ : ∃ m, n = m + 1 := ⟨n - 1, by omega⟩
            obtain ⟨q0, hq0⟩ := get_some (show 0 < qs.length by rw [← HN.out]; omega)
            obtain ⟨b1, off1, hbo, -, -⟩ := R1.out.atN hq0
            subst hbo
            have hcap := CapOk.le C1.out
            have hma : (0 : Int) ≤ (m : Int) := by omega
            have hmb : (m : Int) ≤ (cap1 : Int) := by omega
            have hmw : IntKind.i64.wrap (m : Int) = (m : Int) := wrapi64 _ (by omega)
            have RD := Lib.hid (fun W (h : Ext wA W) => show Reads W (.slice (some ⟨b1, off1, none⟩) m cap1) (ints qs.dropLast) from by
              have h1 := (R1.out.ext h).take m (by omega)
              have h2 : (ints qs).take m = ints qs.dropLast := by
                unfold ints
                rw [List.dropLast_eq_take, List.map_take, show qs.length - 1 = m from by rw [← HN.out]; omega]
              rwa [h2] at h1)
            clear hn0' hq0
            subst hm
            go_wp2
            have KP : ∀ X X' : World, (X.cell? ⟨w.heap.size, 0, none⟩ = some (.int .i64 (S : Int)) ∧ X.cell? ⟨w.heap.size, 1, none⟩ = some (.int .i64 (L : Int)) ∧ X.cell? ⟨w.heap.size, 2, none⟩ = some (.slice a n0 cap) ∧ Hid (Ext wA X)) → Ext X X' → (X'.cell? ⟨w.heap.size, 0, none⟩ = some (.int .i64 (S : Int)) ∧ X'.cell? ⟨w.heap.size, 1, none⟩ = some (.int .i64 (L : Int)) ∧ X'.cell? ⟨w.heap.size, 2, none⟩ = some (.slice a n0 cap) ∧ Hid (Ext wA X')) :=
              fun X X' h hb => ⟨cell_ext hb h.1, cell_ext hb h.2.1, cell_ext hb h.2.2.1, Ext.trans h.2.2.2.out hb⟩
            have HKP := Lib.hid KP; clear KP
            go_region_held3 (fun X => X.cell? ⟨w.heap.size, 0, none⟩ = some (.int .i64 (S : Int)) ∧ X.cell? ⟨w.heap.size, 1, none⟩ = some (.int .i64 (L : Int)) ∧ X.cell? ⟨w.heap.size, 2, none⟩ = some (.slice a n0 cap) ∧ Hid (Ext wA X))
              (first | assumption | exact ⟨g1, g2, g3, Ext.drew (Ext.refl _)⟩ | exact HKP.out _ _ (by assumption) hb | fail)
              (first | (go_at_call 37; refine (H37d.out _ _ (HE.out.trans (of_and4 (by assumption))) (RD.out _ (of_and4 (by assumption)))).mono ?_; rintro e w' ⟨ud, rfl, ⟨hud, -⟩, hb⟩) | fail)
            all_goals
              rename_i hk
              have HK := Lib.hid (HE.out.trans (of_and4 hk))
              obtain ⟨hld, ad, capd, rfl⟩ := hud.shape
              rw [ints_length, ← HND.out]
              have hm1 : nd ≤ nf := hmore.1
              have hm2 : nf ≤ nd + 1 := hmore.2
              have hm3 : ¬ nf < nd := by omega
              have hm4 : ¬ nd + 1 < nf := by omega
              have hm5 : decide ((nd : Int) ≤ (nf : Int)) = true := decide_eq_true (by omega)
              have hm6 : decide ((nf : Int) ≤ (nd : Int) + 1) = true := decide_eq_true (by omega)
              clear hk hud
              go_wp2_with fail
              refine (works18 _).mono ?_
              rintro e wz ⟨rfl, hb⟩
              replace HK := Lib.hid (HK.out.trans hb); clear hb
              go_wp2
              go_ret
              exact ⟨rfl, HK.out⟩
        
        · have hle1 : decide ((n0 : Int) + (nf : Int) ≤ 12) = false := decide_eq_false (by omega)
          have hle2 : (12 : Int) < (n0 : Int) + (nf : Int) := by omega
          have hle4 : ¬ (n0 : Int) + (nf : Int) ≤ 12 := by omega
          by_cases hn0' : n = 0
          · have hnf0 := hf0 hn0'
            have hd1 : ((n : Int) == 0) = true := by simp [hn0']
            have hd2 : ((nf : Int) == 0) = true := by simp [hnf0]
            clear hn0' hnf0
            go_wp2_with fail
            refine (works18 _).mono ?_
            rintro e wz ⟨rfl, hb⟩
            replace HE := Lib.hid (HE.out.trans hb); clear hb
            go_wp2
            go_ret
            exact ⟨rfl, HE.out⟩
          · have hd1 := len_nil_false hn0'
            obtain ⟨m, hm⟩ : ∃ m, n = m + 1 := ⟨n - 1, by omega⟩
            obtain ⟨q0, hq0⟩ := get_some (show 0 < qs.length by rw [← HN.out]; omega)
            obtain ⟨b1, off1, hbo, -, -⟩ := R1.out.atN hq0
            subst hbo
            have hcap := CapOk.le C1.out
            have hma : (0 : Int) ≤ (m : Int) := by omega
            have hmb : (m : Int) ≤ (cap1 : Int) := by omega
            have hmw : IntKind.i64.wrap (m : Int) = (m : Int) := wrapi64 _ (by omega)
            have RD := Lib.hid (fun W (h : Ext w9 W) => show Reads W (.slice (some ⟨b1, off1, none⟩) m cap1) (ints qs.dropLast) from by
              have h1 := (R1.out.ext h).take m (by omega)
              have h2 : (ints qs).take m = ints qs.dropLast := by
                unfold ints
                rw [List.dropLast_eq_take, List.map_take, show qs.length - 1 = m from by rw [← HN.out]; omega]
              rwa [h2] at h1)
            clear hn0' hq0
            subst hm
            go_wp2
            have KP : ∀ X X' : World, (X.cell? ⟨w.heap.size, 0, none⟩ = some (.int .i64 (S : Int)) ∧ X.cell? ⟨w.heap.size, 1, none⟩ = some (.int .i64 (L : Int)) ∧ X.cell? ⟨w.heap.size, 2, none⟩ = some (.slice a n0 cap) ∧ Hid (Ext w9 X)) → Ext X X' → (X'.cell? ⟨w.heap.size, 0, none⟩ = some (.int .i64 (S : Int)) ∧ X'.cell? ⟨w.heap.size, 1, none⟩ = some (.int .i64 (L : Int)) ∧ X'.cell? ⟨w.heap.size, 2, none⟩ = some (.slice a n0 cap) ∧ Hid (Ext w9 X')) :=
              fun X X' h hb => ⟨cell_ext hb h.1, cell_ext hb h.2.1, cell_ext hb h.2.2.1, Ext.trans h.2.2.2.out hb⟩
            have HKP := Lib.hid KP; clear KP
            go_region_held3 (fun X => X.cell? ⟨w.heap.size, 0, none⟩ = some (.int .i64 (S : Int)) ∧ X.cell? ⟨w.heap.size, 1, none⟩ = some (.int .i64 (L : Int)) ∧ X.cell? ⟨w.heap.size, 2, none⟩ = some (.slice a n0 cap) ∧ Hid (Ext w9 X))
              (first | assumption | exact ⟨g1, g2, g3, Ext.drew (Ext.refl _)⟩ | exact HKP.out _ _ (by assumption) hb | fail)
              (first | (go_at_call 37; refine (H37d.out _ _ (HE.out.trans (of_and4 (by assumption))) (RD.out _ (of_and4 (by assumption)))).mono ?_; rintro e w' ⟨ud, rfl, ⟨hud, -⟩, hb⟩) | fail)
            all_goals
              rename_i hk
              have HK := Lib.hid (HE.out.trans (of_and4 hk))
              obtain ⟨hld, ad, capd, rfl⟩ := hud.shape
              rw [ints_length, ← HND.out]
              have hm1 : nd ≤ nf := hmore.1
              have hm2 : nf ≤ nd + 1 := hmore.2
              have hm3 : ¬ nf < nd := by omega
              have hm4 : ¬ nd + 1 < nf := by omega
              have hm5 : decide ((nd : Int) ≤ (nf : Int)) = true := decide_eq_true (by omega)
              have hm6 : decide ((nf : Int) ≤ (nd : Int) + 1) = true := decide_eq_true (by omega)
              clear hk hud
              go_wp2_with fail
              refine (works18 _).mono ?_
              rintro e wz ⟨rfl, hb⟩
              replace HK := Lib.hid (HK.out.trans hb); clear hb
              go_wp2
              go_ret
              exact ⟨rfl, HK.out⟩
  · rw [hk] at h39
    have HK := Lib.hid h39
    clear h39 hk
    refine HK.out.mono ?_
    rintro e w8 ⟨rfl, hb⟩
    obtain ⟨g1, g2, g3⟩ := OffAt.ext ⟨g1, g2, g3⟩ hb
    replace HE := Lib.hid (HE.out.trans hb)
    replace R1 := Lib.hid (R1.out.ext hb)
    replace R2 := Lib.hid (R2.out.ext hb); clear hb
    go_wp2_with fail
    refine (H26.out _ HE.out).mono ?_
    rintro e w9 ⟨y1, y2, rfl, hb⟩
    obtain ⟨g1, g2, g3⟩ := OffAt.ext ⟨g1, g2, g3⟩ hb
    replace HE := Lib.hid (HE.out.trans hb)
    replace R1 := Lib.hid (R1.out.ext hb)
    replace R2 := Lib.hid (R2.out.ext hb); clear hb
    cases A
    · simp only [codeB, Bool.false_eq_true, if_false]
      by_cases hn0' : n = 0
      · have hnf0 := hf0 hn0'
        have hd1 : ((n : Int) == 0) = true := by simp [hn0']
        have hd2 : ((nf : Int) == 0) = true := by simp [hnf0]
        clear hn0' hnf0
        go_wp2_with fail
        refine (works18 _).mono ?_
        rintro e wz ⟨rfl, hb⟩
        replace HE := Lib.hid (HE.out.trans hb); clear hb
        go_wp2
        go_ret
        exact ⟨rfl, HE.out⟩
      · have hd1 := len_nil_false hn0'
        obtain ⟨m, hm⟩ : ∃ m, n = m + 1 := ⟨n - 1, by omega⟩
        obtain ⟨q0, hq0⟩ := get_some (show 0 < qs.length by rw [← HN.out]; omega)
        obtain ⟨b1, off1, hbo, -, -⟩ := R1.out.atN hq0
        subst hbo
        have hcap := CapOk.le C1.out
        have hma : (0 : Int) ≤ (m : Int) := by omega
        have hmb : (m : Int) ≤ (cap1 : Int) := by omega
        have hmw : IntKind.i64.wrap (m : Int) = (m : Int) := wrapi64 _ (by omega)
        have RD := Lib.hid (fun W (h : Ext w9 W) => show Reads W (.slice (some ⟨b1, off1, none⟩) m cap1) (ints qs.dropLast) from by
          have h1 := (R1.out.ext h).take m (by omega)
          have h2 : (ints qs).take m = ints qs.dropLast := by
            unfold ints
            rw [List.dropLast_eq_take, List.map_take, show qs.length - 1 = m from by rw [← HN.out]; omega]
          rwa [h2] at h1)
        clear hn0' hq0
        subst hm
        go_wp2
        have KP : ∀ X X' : World, (X.cell? ⟨w.heap.size, 0, none⟩ = some (.int .i64 (S : Int)) ∧ X.cell? ⟨w.heap.size, 1, none⟩ = some (.int .i64 (L : Int)) ∧ X.cell? ⟨w.heap.size, 2, none⟩ = some (.slice a n0 cap) ∧ Hid (Ext w9 X)) → Ext X X' → (X'.cell? ⟨w.heap.size, 0, none⟩ = some (.int .i64 (S : Int)) ∧ X'.cell? ⟨w.heap.size, 1, none⟩ = some (.int .i64 (L : Int)) ∧ X'.cell? ⟨w.heap.size, 2, none⟩ = some (.slice a n0 cap) ∧ Hid (Ext w9 X')) :=
          fun X X' h hb => ⟨cell_ext hb h.1, cell_ext hb h.2.1, cell_ext hb h.2.2.1, Ext.trans h.2.2.2.out hb⟩
        have HKP := Lib.hid KP; clear KP
        go_region_held3 (fun X => X.cell? ⟨w.heap.size, 0, none⟩ = some (.int .i64 (S : Int)) ∧ X.cell? ⟨w.heap.size, 1, none⟩ = some (.int .i64 (L : Int)) ∧ X.cell? ⟨w.heap.size, 2, none⟩ = some (.slice a n0 cap) ∧ Hid (Ext w9 X))
          (first | assumption | exact ⟨g1, g2, g3, Ext.drew (Ext.refl _)⟩ | exact HKP.out _ _ (by assumption) hb | fail)
          (first | (go_at_call 37; refine (H37d.out _ _ (HE.out.trans (of_and4 (by assumption))) (RD.out _ (of_and4 (by assumption)))).mono ?_; rintro e w' ⟨ud, rfl, ⟨hud, -⟩, hb⟩) | fail)
        all_goals
          rename_i hk
          have HK := Lib.hid (HE.out.trans (of_and4 hk))
          obtain ⟨hld, ad, capd, rfl⟩ := hud.shape
          rw [ints_length, ← HND.out]
          have hm1 : nd ≤ nf := hmore.1
          have hm2 : nf ≤ nd + 1 := hmore.2
          have hm3 : ¬ nf < nd := by omega
          have hm4 : ¬ nd + 1 < nf := by omega
          have hm5 : decide ((nd : Int) ≤ (nf : Int)) = true := decide_eq_true (by omega)
          have hm6 : decide ((nf : Int) ≤ (nd : Int) + 1) = true := decide_eq_true (by omega)
          clear hk hud
          go_wp2_with fail
          refine (works18 _).mono ?_
          rintro e wz ⟨rfl, hb⟩
          replace HK := Lib.hid (HK.out.trans hb); clear hb
          go_wp2
          go_ret
          exact ⟨rfl, HK.out⟩
    · simp only [codeB, if_true]
      try clear hwp
      try clear hmin
      try clear e6
      have hws := wrap_sum n0 nf (by omega)
      have hws2 := wrapi_sum n0 nf (by omega)
      by_cases h12 : n0 + nf ≤ 12
      · have hle1 : decide ((n0 : Int) + (nf : Int) ≤ 12) = true := decide_eq_true (by omega)
        have hle2 : ¬ (12 : Int) < (n0 : Int) + (nf : Int) := by omega
        have hle3 : ¬ 12 < n0 + nf := by omega
        have hle4 : (n0 : Int) + (nf : Int) ≤ 12 := by omega
        have hE1 := (Ext.refl w9).alloc (.cells #[.int .i64 (S : Int), .int .i64 (L : Int), .slice a n0 cap] 24)
        have hE2 := hE1.alloc (.cells #[] 3)
        have hb1 := block_ext ((Ext.refl _).alloc (.cells #[] 3)) (heap_alloc_new w9 (.cells #[.int .i64 (S : Int), .int .i64 (L : Int), .slice a n0 cap] 24))
        have hO0 := World.ownsRow_made (w9.alloc (.cells #[.int .i64 (S : Int), .int .i64 (L : Int), .slice a n0 cap] 24)) (base := w9.heap.size + 1) (e := 3) (size := 1) #[] 0 (by simp [World.size_alloc]) (by simp) rfl
        simp only [World.size_alloc] at hO0
        have hm3 := cell_ext hE2 g3
        have HE2 := Lib.hid hE2; have HB1 := Lib.hid hb1; have HO0 := Lib.hid hO0
        clear hE1 hE2 hb1 hO0
        go_wp2_with (at_builtin; refine appendS _ (w9.heap.size + 1) [] (ints ms) _ _ _ _ rfl rfl rfl HO0.out (by simp [World.size_alloc]) (by simp) rfl (HR.out.ext (HE.out.trans HE2.out)) ?_; intro v1 w10 hO3 hB3; have HO3 := Lib.hid hO3; have HB3 := Lib.hid hB3; clear hO3 hB3)
        have HX10 := Lib.hid (show Ext w9 w10 from Below.trans HE2.out (HB3.out.mono (by omega)))
        refine (H52.out _ _ _ (R1.out.ext HX10.out) (R2.out.ext HX10.out)).mono ?_
        rintro e w11 ⟨u5, rfl, hu5, hb⟩
        have hs10 : w9.heap.size + 1 ≤ w10.heap.size := Nat.le_trans (by simp [World.size_alloc]) HB3.out.size
        have hs11 : w9.heap.size + 1 ≤ w11.heap.size := Nat.le_trans hs10 (Below.size hb)
        have HO4 := Lib.hid (ownsI_ext HO3.out hb)
        have HB4 := Lib.hid (Below.mono hb hs10)
        have HX11 := Lib.hid (HX10.out.trans hb)
        have HS11 := Lib.hid hs11
        obtain ⟨hl5, a5, cap5, rfl⟩ := hu5.shape
        have HU5 := Lib.hid hu5
        clear hu5 hb hs10 hs11
        go_wp2_with (at_builtin; refine appendS _ (w9.heap.size + 1) _ (ints (fam.map (mAt qs))) _ _ _ _ rfl rfl rfl HO4.out HS11.out (by simp [ints]; have := HN0.out; omega) rfl HU5.out ?_
                     intro v2 w12 hO5 hB5
                     rw [List.nil_append] at hO5
                     have k1 := (hB5.block w9.heap.size (by omega)).trans ((HB4.out.block w9.heap.size (by omega)).trans ((HB3.out.block w9.heap.size (by omega)).trans HB1.out))
                     have HK1 := Lib.hid k1
                     have q0 := cell_of_row _ _ 0 _ _ _ k1
                     have q1 := cell_of_row _ _ 1 _ _ _ k1
                     have q2 := cell_of_row _ _ 2 _ _ _ k1
                     have f2 := frozen_of_row _ _ 2 _ _ k1
                     simp at q0 q1 q2
                     have r5 := hO5.reads (by simp [ints]; have := HN0.out; have := HNF.out; omega)
                     have hx12 := Below.trans HX11.out (hB5.mono (by omega))
                     have HX12 := Lib.hid hx12
                     have HO5 := Lib.hid hO5
                     clear hO5 hB5 k1 hx12
                     obtain ⟨hl6, a6, cap6, rfl⟩ := r5.shape
                     have hn6 : (ints ms ++ ints (fam.map (mAt qs))).length = n0 + nf := by rw [List.length_append, ints_length, ints_length, HPM.out, ← HN0.out, ← HNF.out]
                     rw [hn6] at hl6 ⊢
                     have hn6c : (((n0 + nf : Nat)) : Int) = (n0 : Int) + (nf : Int) := by omega
                     have r6 := HO5.out.set_below (b := w9.heap.size) (o := 2) (by omega) (.slice a6 (n0 + nf) cap6)
                     have r7 := r6.reads (by simp [ints]; have := HN0.out; have := HNF.out; omega)
                     rw [hn6, show ints ms ++ ints (fam.map (mAt qs)) = ints (ms ++ fam.map (mAt qs)) from by simp [ints]] at r7
                     have HR7 := Lib.hid r7
                     have hk2 := set_row2 HK1.out (.slice a6 (n0 + nf) cap6)
                     have e0 := cell_of_row _ _ 0 _ _ _ hk2
                     have e1 := cell_of_row _ _ 1 _ _ _ hk2
                     have e2 := cell_of_row _ _ 2 _ _ _ hk2
                     simp at e0 e1 e2
                     have HX13 := Lib.hid (show Ext w9 (w12.setCell ⟨w9.heap.size, 2, none⟩ (.slice a6 (n0 + nf) cap6)) from Below.setCell HX12.out (Nat.le_refl _) _)
                     clear r5 r6 r7 hk2 hn6 hl6)
        refine (H26x.out (by trivial) h12 _ _ HR7.out).mono ?_
        rintro e wA ⟨y3, y4, rfl, hb⟩
        have HXA := Lib.hid (HX13.out.trans hb)
        obtain ⟨g1, g2, g3⟩ := OffAt.ext ⟨g1, g2, g3⟩ HXA.out
        replace HE := Lib.hid (HE.out.trans HXA.out)
        replace R1 := Lib.hid (R1.out.ext HXA.out)
        replace R2 := Lib.hid (R2.out.ext HXA.out); clear hb
        simp only [codeB, if_true]
        by_cases hn0' : n = 0
        · have hnf0 := hf0 hn0'
          have hd1 : ((n : Int) == 0) = true := by simp [hn0']
          have hd2 : ((nf : Int) == 0) = true := by simp [hnf0]
          clear hn0' hnf0
          go_wp2_with fail
          refine (works18 _).mono ?_
          rintro e wz ⟨rfl, hb⟩
          replace HE := Lib.hid (HE.out.trans hb); clear hb
          go_wp2
          go_ret
          exact ⟨rfl, HE.out⟩
        · have hd1 := len_nil_false hn0'
          obtain ⟨m, hm⟩ : ∃ m, n = m + 1 := ⟨n - 1, by omega⟩
          obtain ⟨q0, hq0⟩ := get_some (show 0 < qs.length by rw [← HN.out]; omega)
          obtain ⟨b1, off1, hbo, -, -⟩ := R1.out.atN hq0
          subst hbo
          have hcap := CapOk.le C1.out
          have hma : (0 : Int) ≤ (m : Int) := by omega
          have hmb : (m : Int) ≤ (cap1 : Int) := by omega
          have hmw : IntKind.i64.wrap (m : Int) = (m : Int) := wrapi64 _ (by omega)
          have RD := Lib.hid (fun W (h : Ext wA W) => show Reads W (.slice (some ⟨b1, off1, none⟩) m cap1) (ints qs.dropLast) from by
            have h1 := (R1.out.ext h).take m (by omega)
            have h2 : (ints qs).take m = ints qs.dropLast := by
              unfold ints
              rw [List.dropLast_eq_take, List.map_take, show qs.length - 1 = m from by rw [← HN.out]; omega]
            rwa [h2] at h1)
          clear hn0' hq0
          subst hm
          go_wp2
          have KP : ∀ X X' : World, (X.cell? ⟨w.heap.size, 0, none⟩ = some (.int .i64 (S : Int)) ∧ X.cell? ⟨w.heap.size, 1, none⟩ = some (.int .i64 (L : Int)) ∧ X.cell? ⟨w.heap.size, 2, none⟩ = some (.slice a n0 cap) ∧ Hid (Ext wA X)) → Ext X X' → (X'.cell? ⟨w.heap.size, 0, none⟩ = some (.int .i64 (S : Int)) ∧ X'.cell? ⟨w.heap.size, 1, none⟩ = some (.int .i64 (L : Int)) ∧ X'.cell? ⟨w.heap.size, 2, none⟩ = some (.slice a n0 cap) ∧ Hid (Ext wA X')) :=
            fun X X' h hb => ⟨cell_ext hb h.1, cell_ext hb h.2.1, cell_ext hb h.2.2.1, Ext.trans h.2.2.2.out hb⟩
          have HKP := Lib.hid KP; clear KP
          go_region_held3 (fun X => X.cell? ⟨w.heap.size, 0, none⟩ = some (.int .i64 (S : Int)) ∧ X.cell? ⟨w.heap.size, 1, none⟩ = some (.int .i64 (L : Int)) ∧ X.cell? ⟨w.heap.size, 2, none⟩ = some (.slice a n0 cap) ∧ Hid (Ext wA X))
            (first | assumption | exact ⟨g1, g2, g3, Ext.drew (Ext.refl _)⟩ | exact HKP.out _ _ (by assumption) hb | fail)
            (first | (go_at_call 37; refine (H37d.out _ _ (HE.out.trans (of_and4 (by assumption))) (RD.out _ (of_and4 (by assumption)))).mono ?_; rintro e w' ⟨ud, rfl, ⟨hud, -⟩, hb⟩) | fail)
          all_goals
            rename_i hk
            have HK := Lib.hid (HE.out.trans (of_and4 hk))
            obtain ⟨hld, ad, capd, rfl⟩ := hud.shape
            rw [ints_length, ← HND.out]
            have hm1 : nd ≤ nf := hmore.1
            have hm2 : nf ≤ nd + 1 := hmore.2
            have hm3 : ¬ nf < nd := by omega
            have hm4 : ¬ nd + 1 < nf := by omega
            have hm5 : decide ((nd : Int) ≤ (nf : Int)) = true := decide_eq_true (by omega)
            have hm6 : decide ((nf : Int) ≤ (nd : Int) + 1) = true := decide_eq_true (by omega)
            clear hk hud
            go_wp2_with fail
            refine (works18 _).mono ?_
            rintro e wz ⟨rfl, hb⟩
            replace HK := Lib.hid (HK.out.trans hb); clear hb
            go_wp2
            go_ret
            exact ⟨rfl, HK.out⟩
      
      · have hle1 : decide ((n0 : Int) + (nf : Int) ≤ 12) = false := decide_eq_false (by omega)
        have hle2 : (12 : Int) < (n0 : Int) + (nf : Int) := by omega
        have hle4 : ¬ (n0 : Int) + (nf : Int) ≤ 12 := by omega
        by_cases hn0' : n = 0
        · have hnf0 := hf0 hn0'
          have hd1 : ((n : Int) == 0) = true := by simp [hn0']
          have hd2 : ((nf : Int) == 0) = true := by simp [hnf0]
          clear hn0' hnf0
          go_wp2_with fail
          refine (works18 _).mono ?_
          rintro e wz ⟨rfl, hb⟩
          replace HE := Lib.hid (HE.out.trans hb); clear hb
          go_wp2
          go_ret
          exact ⟨rfl, HE.out⟩
        · have hd1 := len_nil_false hn0'
          obtain ⟨m, hm⟩ : ∃ m, n = m + 1 := ⟨n - 1, by omega⟩
          obtain ⟨q0, hq0⟩ := get_some (show 0 < qs.length by rw [← HN.out]; omega)
          obtain ⟨b1, off1, hbo, -, -⟩ := R1.out.atN hq0
          subst hbo
          have hcap := CapOk.le C1.out
          have hma : (0 : Int) ≤ (m : Int) := by omega
          have hmb : (m : Int) ≤ (cap1 : Int) := by omega
          have hmw : IntKind.i64.wrap (m : Int) = (m : Int) := wrapi64 _ (by omega)
          have RD := Lib.hid (fun W (h : Ext w9 W) => show Reads W (.slice (some ⟨b1, off1, none⟩) m cap1) (ints qs.dropLast) from by
            have h1 := (R1.out.ext h).take m (by omega)
            have h2 : (ints qs).take m = ints qs.dropLast := by
              unfold ints
              rw [List.dropLast_eq_take, List.map_take, show qs.length - 1 = m from by rw [← HN.out]; omega]
            rwa [h2] at h1)
          clear hn0' hq0
          subst hm
          go_wp2
          have KP : ∀ X X' : World, (X.cell? ⟨w.heap.size, 0, none⟩ = some (.int .i64 (S : Int)) ∧ X.cell? ⟨w.heap.size, 1, none⟩ = some (.int .i64 (L : Int)) ∧ X.cell? ⟨w.heap.size, 2, none⟩ = some (.slice a n0 cap) ∧ Hid (Ext w9 X)) → Ext X X' → (X'.cell? ⟨w.heap.size, 0, none⟩ = some (.int .i64 (S : Int)) ∧ X'.cell? ⟨w.heap.size, 1, none⟩ = some (.int .i64 (L : Int)) ∧ X'.cell? ⟨w.heap.size, 2, none⟩ = some (.slice a n0 cap) ∧ Hid (Ext w9 X')) :=
            fun X X' h hb => ⟨cell_ext hb h.1, cell_ext hb h.2.1, cell_ext hb h.2.2.1, Ext.trans h.2.2.2.out hb⟩
          have HKP := Lib.hid KP; clear KP
          go_region_held3 (fun X => X.cell? ⟨w.heap.size, 0, none⟩ = some (.int .i64 (S : Int)) ∧ X.cell? ⟨w.heap.size, 1, none⟩ = some (.int .i64 (L : Int)) ∧ X.cell? ⟨w.heap.size, 2, none⟩ = some (.slice a n0 cap) ∧ Hid (Ext w9 X))
            (first | assumption | exact ⟨g1, g2, g3, Ext.drew (Ext.refl _)⟩ | exact HKP.out _ _ (by assumption) hb | fail)
            (first | (go_at_call 37; refine (H37d.out _ _ (HE.out.trans (of_and4 (by assumption))) (RD.out _ (of_and4 (by assumption)))).mono ?_; rintro e w' ⟨ud, rfl, ⟨hud, -⟩, hb⟩) | fail)
          all_goals
            rename_i hk
            have HK := Lib.hid (HE.out.trans (of_and4 hk))
            obtain ⟨hld, ad, capd, rfl⟩ := hud.shape
            rw [ints_length, ← HND.out]
            have hm1 : nd ≤ nf := hmore.1
            have hm2 : nf ≤ nd + 1 := hmore.2
            have hm3 : ¬ nf < nd := by omega
            have hm4 : ¬ nd + 1 < nf := by omega
            have hm5 : decide ((nd : Int) ≤ (nf : Int)) = true := decide_eq_true (by omega)
            have hm6 : decide ((nf : Int) ≤ (nd : Int) + 1) = true := decide_eq_true (by omega)
            clear hk hud
            go_wp2_with fail
            refine (works18 _).mono ?_
            rintro e wz ⟨rfl, hb⟩
            replace HK := Lib.hid (HK.out.trans hb); clear hb
            go_wp2
            go_ret
            exact ⟨rfl, HK.out⟩
end Go.Proofs.Ytlgdnbpboonhdaa
