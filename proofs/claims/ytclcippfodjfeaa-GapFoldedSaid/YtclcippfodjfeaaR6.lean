/- Two growing lists of the call's own, of different elements. The reference's Place (32), by its contract. Helpers of the laws: fine (43), pockets (44), back (46), longest (45). How long a part with increasing numbers is at most, as a law finds it (45). -/
import Derived.Test.YtclcippfodjfeaaR3
import Derived.Test.YtclcippfodjfeaaC4
import Derived.Deep.RegionLaw
namespace Go.Proofs.Ytclcippfodjfeaa
open Go.RowKit
set_option linter.unusedVariables false
set_option linter.unusedSimpArgs false
theorem OwnI.apart {e e2 : TypeId} {B B2 : Nat} {w w' : World} {v u : Value} {xs ys : List Int} (h : OwnI e B w v xs) (h2 : OwnI e2 B2 w u ys) (hne : e2 ≠ e) (hg : w.grownBy w' v.ownBlock) : OwnI e2 B2 w' u ys := by
  obtain ⟨h3, h4 | ⟨g, cap, cur, rfl, hB, hh, r⟩⟩ := h2
  · exact ⟨h3, .inl h4⟩
  · refine ⟨h3, .inr ⟨g, cap, cur, rfl, hB, ?_, r⟩⟩
    rw [← hh]
    refine hg.block g (lt_of_blk hh) fun hc => ?_
    rcases h.2 with ⟨rfl, -⟩ | ⟨gv, capv, curv, rfl, -, hv, -⟩
    · cases hc
    · have : g = gv := by simpa [Value.ownBlock] using hc
      subst this
      rw [hh] at hv
      cases hv
      exact hne rfl
/-- 'append(s, x)' onto a list of the call's own: lists of other elements stay. -/
theorem appendG {t e : TypeId} (hte : Try.prog.underlying t = some (.slice e)) (hie : (Try.prog.info? e).map (fun i => (i.zero, i.size, i.bytes)) = some (some (.int .i64 0), 1, 8))
    {ops : Array Oper} {rest : List Oper} {o : Oper} {a : Act} {Q : Exit → Act → World → Prop} (w : World) (B : Nat) (xs : List Int) (x : Int) (v : Value) (s u : Operand) (N : Nat) (hN : N = w.heap.size) (hgd : o.guard = none)
    (ho : o.op = .call { callee := .builtin .append, args := #[s, u], argTypes := #[t, t] }) (hs : a.eval s = v) (hown : OwnI e B w v xs) (hB : B ≤ w.heap.size) (hl : xs.length ≤ 5000)
    (hx : a.eval u = .slice (some ⟨N, 0, none⟩) 1 1)
    (h : ∀ v' w', OwnI e B w' v' (xs ++ [x]) → Below B w w' → (∀ e2 B2 u2 ys, e2 ≠ e → OwnI e2 B2 w u2 ys → OwnI e2 B2 w' u2 ys) → wpList Try.prog ops Q rest (a.put o.dst v') w') : wpList Try.prog ops Q (o :: rest) a (w.alloc (.cells #[.int .i64 x] e)) := by
  subst hN
  obtain ⟨i0, hi0, hz0, hz1, hz2⟩ := info_parts hie
  have hown2 : OwnI e B (w.alloc (.cells #[.int .i64 x] e)) v xs := hown.ext ((Ext.refl w).alloc _)
  refine wpList_append_own _ hgd s u t ho B e i0 (.int .i64 0) 1 8 hte hi0 hz0 hz1 hz2 rfl (by decide) v _ _ hs hown2 ⟨w.heap.size, 0, none⟩ 1 1 [.int .i64 x] hx rfl ?_ ?_ ?_ ?_ ?_ ?_
  · intro j u hj
    match j, hj with
    | 0, hj =>
      simp at hj; subst hj
      rw [show (⟨w.heap.size, 0, none⟩ : Addr).add 0 = ⟨w.heap.size, 0, none⟩ by simp [Addr.add], World.cell?_alloc_at _ _ _ _ rfl]; rfl
  · intro u hu; simp at hu; subst hu; rfl
  · unfold maxLen; omega
  · omega
  · simp; omega
  · intro v' w' h1 h2 _
    refine h v' w' ?_ ?_ ?_
    · unfold OwnI; simpa using h1
    · have hb0 : Below B w (w.alloc (.cells #[.int .i64 x] e)) := (Below.refl B w).alloc hB _
      refine hb0.grown h2 (by simp; omega) fun k hk => ?_
      exact (hown2.lt k hk).1
    · intro e2 B2 u2 ys hne h3
      exact hown2.apart (h3.ext ((Ext.refl w).alloc _)) hne h2
theorem OwnI.set_other {e e2 : TypeId} {B B2 m cap g p : Nat} {w : World} {u : Value} {xs ys : List Int} (h : OwnI e B w (.slice (some ⟨g, 0, none⟩) m cap) xs) (h2 : OwnI e2 B2 w u ys) (hne : e2 ≠ e) (x : Value) : OwnI e2 B2 (w.setCell ⟨g, p, none⟩ x) u ys :=
  h.apart h2 hne (by have := grown_set w g p x; exact this)
/-- What the reference's Place, Run and so on hand back: a list, or an error. -/
def ListRef (w : World) (c : Int) (xs : List Int) (e : Ending) (w' : World) : Prop := (c ≠ 0 ∧ e = .returned (.tuple #[.slice none 0 0, .int .i64 c]) ∨ c = 0 ∧ ∃ u, e = .returned (.tuple #[u, .int .i64 0]) ∧ Reads w' u xs) ∧ Ext w w'
theorem set_end (last : List Int) (x : Int) : (last ++ [(0 : Int)]).set last.length x = last ++ [x] := by simp
set_option maxRecDepth 100000 in
set_option maxHeartbeats 4000000 in
theorem refPlace32 (v : Value) (row : List Int) (w : World) (hr : Reads w v row) :
    Calls Try.prog 32 #[v] w (ListRef w (chkR row) (placeI row)) := by
  have H22 := Lib.hid (refRow22 v row w hr)
  obtain ⟨hl, ar, cap, rfl⟩ := hr.shape
  obtain ⟨c, hc⟩ : ∃ c, c = chkR row := ⟨_, rfl⟩
  rw [← hc] at H22 ⊢
  clear hc
  obtain ⟨n, hn⟩ : ∃ n, n = row.length := ⟨_, rfl⟩
  rw [← hn] at hr H22 hl ⊢
  have HR := Lib.hid hr; have HNL := Lib.hid hn
  clear hr hn
  by_cases hc : c = 0
  · subst hc
    go_enter Try.func32, Try.ntmps32
    go_wp2_with fail
    refine H22.out.mono ?_
    rintro e w' ⟨rfl, rfl⟩
    go_wp2_with fail
    go_loopg [4, 5, 6] n (fun g v u i wr => ∃ k : Nat, k + g = n ∧ i = .int .i64 (k : Int) ∧ Hid (OwnI 2 w.heap.size wr v (plTo row k).1) ∧ Hid (OwnI 3 w.heap.size wr u ((plTo row k).2.map fun (n : Nat) => (n : Int))) ∧ Hid (Ext w wr))
    case atStart => exact ⟨0, by omega, rfl, OwnI.nil _ _ _, OwnI.nil _ _ _, Ext.refl _⟩
    case round =>
      obtain ⟨k, hkg, rfl, hO, hU, hE⟩ := hrel
      by_cases hlt : k < n
      · obtain ⟨b1, off1, x, rfl, hx, hcx⟩ := (HR.out.ext hE.out).at (show k < row.length by rw [← HNL.out]; exact hlt)
        have hx' : rAt row k = x := tAt_some hx
        have hpl : (plTo row (k + 1)).1 = plLast (plTo row k).1 (rAt row k) := rfl
        have hpo : (plTo row (k + 1)).2 = (plTo row k).2 ++ [firstP (plTo row k).1 (rAt row k)] := rfl
        have hll := pl_last_le row k
        have hol := pl_len row k
        unfold plLast at hpl
        rw [hx'] at hpl hpo
        generalize (plTo row k).1 = last at *
        generalize (plTo row k).2 = ou at *
        have hO2 := hO.out; have hU2 := hU.out
        obtain ⟨av, capv, hv, hcv⟩ := hO2.shape
        subst hv
        obtain ⟨m, hm⟩ : ∃ m, m = last.length := ⟨_, rfl⟩
        rw [← hm] at hO hO2 hll hcv hpl ⊢
        have hka : (0 : Int) ≤ (k : Int) := by omega
        have hkb : (k : Int) < (n : Int) := by omega
        have HX := Lib.hid hx; have HPL := Lib.hid hpl; have HPO := Lib.hid hpo; have HM := Lib.hid hm; have HOL := Lib.hid hol
        clear hx hx' hpl hpo hm hO2 hU2 hol
        obtain ⟨wo, hwo⟩ : ∃ wo : World, wo = wr := ⟨_, rfl⟩
        have HWO := Lib.hid (show Ext wo wr from by rw [hwo]; exact Ext.refl _)
        rw [← hwo] at hO hU hE
        clear hwo hcx
        go_wp2_with fail
        go_loopg [7] m (fun g2 j wy => ∃ q : Nat, q + g2 = m ∧ j = .int .i64 (q : Int) ∧ Hid (∀ i, i < q → x < tAt last i) ∧ Hid (Ext wo wy))
        case atStart => exact ⟨0, by omega, rfl, fun i h => by omega, HWO.out⟩
        case round =>
          obtain ⟨q, hqg, rfl, hI, hY⟩ := hrel
          obtain ⟨b2, off2, x2, hb2, hx2, hcx⟩ := (HR.out.ext (hE.out.trans hY.out)).at (show k < row.length by rw [← HNL.out]; exact hlt)
          cases hb2
          have e2 : x2 = x := Option.some.inj (hx2.symm.trans HX.out)
          subst e2
          have hOy := hO.out.ext hY.out
          by_cases hq : q < m
          · obtain ⟨gv, rfl, hgB, hgl, hcq, hfq, hst⟩ := hOy.at (p := q) (by rw [← HM.out]; exact hq)
            obtain ⟨y, hy⟩ : ∃ y, y = tAt last q := ⟨_, rfl⟩
            rw [← hy] at hcq
            have HY := Lib.hid hy; have HST := Lib.hid hst
            have hqa : (0 : Int) ≤ (q : Int) := by omega
            have hqb : (q : Int) < (m : Int) := by omega
            have ht2 : (q : Int).toNat = q := by omega
            by_cases hyx : y ≤ x2
            · have hd : decide (x2 < y) = false := decide_eq_false (by omega)
              have hqm : ((q : Int) == (m : Int)) = false := by simp; omega
              have hp : firstP last x2 = q := firstP_hit hI.out (by rw [← HM.out]; exact hq) (by rw [← HY.out]; exact hyx)
              have HP := Lib.hid hp
              have HU2 := Lib.hid (fun (W : World) (h : Ext wr W) => (hO.out.ext (hY.out.trans h)).set_other (p := q) (hU.out.ext (hY.out.trans h)) (by decide) (.int .i64 x2))
              have HO2 := Lib.hid (show ∀ W : World, Ext wr W → OwnI 2 w.heap.size (W.setCell ⟨gv, q, none⟩ (.int .i64 x2)) (.slice (some ⟨gv, 0, none⟩) m capv) (last.set q x2) from fun W h => by
                obtain ⟨g', hg', -, -, -, -, hs⟩ := (hO.out.ext (hY.out.trans h)).at (p := q) (by rw [← HM.out]; exact hq)
                cases hg'; exact hs x2)
              have HE2 := Lib.hid (fun (W : World) (h : Ext wr W) => (hE.out.trans (hY.out.trans h)).set hgB q (.int .i64 x2))
              clear hy hst hx2 hOy hp
              go_wp2
              go_quiet (fail)
              go_wp2_with (at_builtin; first
                | (refine appendG Try.underlying23 Try.info3 _ w.heap.size (ou.map fun (n : Nat) => (n : Int)) (q : Int) _ _ _ wr.heap.size (by simp) rfl rfl rfl (HU2.out _ ((Ext.refl wr).drewN _)) (Below.size (HE2.out _ ((Ext.refl wr).drewN _))) (by rw [List.length_map, HOL.out]; omega) rfl ?_
                   intro v6 w6 hO6 hB6 hoth
                   have HO6 := Lib.hid hO6
                   have HL6 := Lib.hid (hoth 2 w.heap.size _ _ (by decide) (HO2.out _ ((Ext.refl wr).drewN _)))
                   have HE6 := Lib.hid (Below.trans (HE2.out _ ((Ext.refl wr).drewN _)) hB6 : Ext w w6)
                   clear hO6 hB6 hoth))
              go_roundg (n - (k + 1))
              case measure => omega
              case rel =>
                refine ⟨k + 1, by omega, by go_num, ?_, ?_, HE6.out⟩
                · show OwnI _ _ _ _ _
                  rw [HPL.out, HP.out, if_neg (by omega)]
                  exact HL6.out
                · show OwnI _ _ _ _ _
                  rw [HPO.out, HP.out, List.map_append]
                  exact HO6.out
            · have hd : decide (x2 < y) = true := decide_eq_true (by omega)
              clear hy hst hx2 hOy
              go_wp2
              go_quiet (fail)
              go_wp2
              go_roundg (m - (q + 1))
              case measure => omega
              case rel => exact ⟨q + 1, by omega, by go_num, fun i hi => by
                rcases Nat.lt_succ_iff_lt_or_eq.1 hi with h | h
                · exact hI.out i h
                · subst h; rw [← HY.out]; omega, hY.out.drewN _⟩
          · obtain rfl : m = q := by omega
            have hp : firstP last x2 = last.length := firstP_none (by rw [← HM.out]; exact hI.out)
            have HP := Lib.hid hp
            have hql : last.length ≤ 5000 := by rw [← HM.out]; omega
            have hnlt : ¬ (m : Int) < (m : Int) := by omega
            have hmm : ((m : Int) == (m : Int)) = true := by simp
            have HOW := Lib.hid (fun (W : World) (h : Ext wr W) => hO.out.ext (hY.out.trans h))
            have HUW := Lib.hid (fun (W : World) (h : Ext wr W) => hU.out.ext (hY.out.trans h))
            have HEW := Lib.hid (fun (W : World) (h : Ext wr W) => hE.out.trans (hY.out.trans h))
            have HQL := Lib.hid hql
            clear hp hx2 hOy hql hI
            go_wp2
            go_quiet (fail)
            go_wp2_with (at_builtin; first
              | (refine appendG Try.underlying22 Try.info2 _ w.heap.size last 0 _ _ _ wr.heap.size (by simp) rfl rfl rfl (HOW.out _ ((Ext.refl wr).drewN _)) (Below.size (HEW.out _ ((Ext.refl wr).drewN _))) HQL.out rfl ?_
                 intro v6 w6 hO6 hB6 hoth6
                 have HE6 := Lib.hid (show Ext w w6 from Below.trans (HEW.out _ ((Ext.refl wr).drewN _)) hB6)
                 have HU6 := Lib.hid (hoth6 3 w.heap.size _ _ (by decide) (HUW.out _ ((Ext.refl wr).drewN _)))
                 obtain ⟨a6, cap6, rfl, -⟩ := hO6.shape
                 have h6 : (last ++ [(0 : Int)]).length = m + 1 := by rw [List.length_append, ← HM.out]; rfl
                 obtain ⟨g6, rfl, hg6, hgl6, hc6, hf6, hs6⟩ := hO6.at (p := m) (by rw [h6]; omega)
                 rw [h6] at hO6 hs6 ⊢
                 obtain ⟨z6, hz6⟩ : ∃ z6, z6 = tAt (last ++ [(0 : Int)]) m := ⟨_, rfl⟩
                 rw [← hz6] at hc6
                 obtain ⟨b3, off3, x3, hb3, hx3, hcx3⟩ := (HR.out.ext HE6.out).at (show k < row.length by rw [← HNL.out]; exact hlt)
                 cases hb3
                 have e3 : x3 = x2 := Option.some.inj (hx3.symm.trans HX.out)
                 subst e3
                 have HS6 := Lib.hid (hs6 x3)
                 have HUS6 := Lib.hid (hO6.set_other (p := m) HU6.out (by decide) (.int .i64 x3))
                 have HES6 := Lib.hid (HE6.out.set hg6 m (.int .i64 x3))
                 have hm6a : (0 : Int) ≤ (m : Int) := by omega
                 have hm6b : (m : Int) < ((m + 1 : Nat) : Int) := by omega
                 clear hO6 hB6 hoth6 hs6 hz6 hx3 h6 hcx)
              | (refine appendG Try.underlying23 Try.info3 _ w.heap.size (ou.map fun (n : Nat) => (n : Int)) (m : Int) _ _ _ w6.heap.size (by simp) rfl rfl rfl HUS6.out (Below.size HES6.out) (by rw [List.length_map, HOL.out]; omega) rfl ?_
                 intro v7 w7 hO7 hB7 hoth7
                 have HO7 := Lib.hid hO7
                 have HL7 := Lib.hid (hoth7 2 w.heap.size _ _ (by decide) HS6.out)
                 have HE7 := Lib.hid (show Ext w w7 from Below.trans HES6.out hB7)
                 clear hO7 hB7 hoth7))
            go_roundg (n - (k + 1))
            case measure => omega
            case rel =>
              refine ⟨k + 1, by omega, by go_num, ?_, ?_, HE7.out⟩
              · show OwnI _ _ _ _ _
                rw [HPL.out, HP.out, if_pos HM.out.symm, ← set_end, ← HM.out]
                exact HL7.out
              · show OwnI _ _ _ _ _
                rw [HPO.out, HP.out, List.map_append, ← HM.out]
                exact HO7.out
      · obtain rfl : n = k := by omega
        have HPL := Lib.hid (hU.out.reads (by rw [List.length_map, pl_len]; exact hl) : Reads wr _ ((plTo row n).2.map fun (n : Nat) => (n : Int)))
        rw [HNL.out] at HPL
        go_wp2
        try rw [Exit.noGoto_ret]
        go_ret2
        exact ⟨.inr ⟨rfl, _, rfl, HPL.out⟩, hE.out⟩
  · have hd : (c != 0) = true := by simpa using hc
    have HC := Lib.hid hc
    clear hc
    go_enter Try.func32, Try.ntmps32
    go_wp2_with fail
    refine H22.out.mono ?_
    rintro e w' ⟨rfl, rfl⟩
    go_wp2_with fail
    refine H22.out.mono ?_
    rintro e w' ⟨rfl, rfl⟩
    go_wp2
    go_ret2
    exact ⟨.inl ⟨HC.out, rfl⟩, Ext.refl _⟩
end Go.Proofs.Ytclcippfodjfeaa
namespace Go.Proofs.Ytclcippfodjfeaa
open Go.RowKit
set_option linter.unusedVariables false
set_option linter.unusedSimpArgs false
theorem any_world {P : Program} {c : Code} {Q : Exit → Act → World → Prop} {a : Act} {w w0 : World} (hE : Ext w0 w) (h : ∀ W, Ext w0 W → c.wp P Q a W) : c.wp P Q a w := h w hE
theorem fine43 (a : Option Addr) (n cap : Nat) (row : List Int) (hn : n = row.length) (w : World) (hr : n ≤ 5000 → Reads w (.slice a n cap) row) :
    (∀ W, Ext w W → Calls Try.prog 43 #[.slice a n cap] W fun e w' => e = .returned (.bool false) ∧ W = w') ∨
    chkR row = 0 ∧ Reads w (.slice a n cap) row ∧ ∀ W, Ext w W → Calls Try.prog 43 #[.slice a n cap] W fun e w' => e = .returned (.bool true) ∧ W = w' := by
  by_cases h40 : 40 < n
  · left
    intro W hW
    have H17 := Lib.hid (great17 a n cap W)
    have hd : decide (40 < n) = true := decide_eq_true h40
    rw [hd] at H17
    clear hr hn hd h40
    go_enter Try.func43, Try.ntmps43
    go_wp2_with fail
    refine H17.out.mono ?_
    rintro e w' ⟨rfl, rfl⟩
    go_wp2
    go_ret
    exact ⟨rfl, rfl⟩
  · have hR := hr (by omega)
    have h17 := fun W => great17 a n cap W
    have hd : decide (40 < n) = false := decide_eq_false h40
    rw [hd] at h17
    have H17 := Lib.hid h17
    have h22 := fun W (h : Ext w W) => refRow22 _ row W (hR.ext h)
    obtain ⟨c, hc⟩ : ∃ c, c = chkR row := ⟨_, rfl⟩
    rw [← hc] at h22 ⊢
    have H22 := Lib.hid h22
    by_cases h0 : c = 0
    · right
      subst h0
      refine ⟨rfl, hR, fun W hW => ?_⟩
      clear hr hR h17 h22 hn hc hd h40
      go_enter Try.func43, Try.ntmps43
      go_wp2_with fail
      refine (H17.out _).mono ?_
      rintro e w' ⟨rfl, rfl⟩
      go_wp2_with fail
      refine (H22.out _ hW).mono ?_
      rintro e w' ⟨rfl, rfl⟩
      go_wp2
      go_ret
      exact ⟨rfl, rfl⟩
    · left
      intro W hW
      have hb : (c == 0) = false := by simpa using h0
      clear hr hR h17 h22 hn hc hd h40
      go_enter Try.func43, Try.ntmps43
      go_wp2_with fail
      refine (H17.out _).mono ?_
      rintro e w' ⟨rfl, rfl⟩
      go_wp2_with fail
      refine (H22.out _ hW).mono ?_
      rintro e w' ⟨rfl, rfl⟩
      go_wp2
      go_ret
      exact ⟨rfl, rfl⟩
theorem pockets44 (y : Nat) (hy : y ≤ 255) (w : World) : Calls Try.prog 44 #[.int .u8 (y : Int)] w fun e w' => e = .returned (.int .i64 ((y % 31 : Nat) : Int)) ∧ w = w' := by
  obtain ⟨r, hr⟩ : ∃ r, r = y % 31 := ⟨_, rfl⟩
  have hl : r < 31 := by rw [hr]; exact Nat.mod_lt _ (by decide)
  have wy : IntKind.i64.wrap (y : Int) = (y : Int) := wrapi64 _ (by omega) (by omega)
  have wr : IntKind.i64.wrap (r : Int) = (r : Int) := wrapi64 _ (by omega) (by omega)
  have et : ((y : Nat) : Int).tmod 31 = (r : Int) := by rw [show (31 : Int) = ((31 : Nat) : Int) from rfl, ← Int.ofNat_tmod, hr]
  have em : (y : Int) % 31 = (r : Int) := by omega
  rw [← hr]
  clear hr
  go_enter Try.func44, Try.ntmps44
  go_wp2
  go_ret
  exact ⟨rfl, rfl⟩
set_option maxRecDepth 100000 in
set_option maxHeartbeats 2000000 in
theorem back46 (v : Value) (row : List Int) (w : World) (hr : Reads w v row) :
    Calls Try.prog 46 #[v] w fun e w' => ∃ u, e = .returned u ∧ Reads w' u row.reverse ∧ Ext w w' := by
  obtain ⟨hl, ar, cap, rfl⟩ := hr.shape
  obtain ⟨n, hn⟩ : ∃ n, n = row.length := ⟨_, rfl⟩
  rw [← hn] at hr hl ⊢
  have HR := Lib.hid hr; have HN := Lib.hid hn
  have hw0 : IntKind.i64.wrap ((n : Int) - 1) = (n : Int) - 1 := wrapi64 _ (by omega) (by omega)
  clear hr hn
  go_enter Try.func46, Try.ntmps46
  go_wp2
  clear hw0
  go_loopg [3, 4] n (fun g v i wr => ∃ k : Nat, k + g = n ∧ i = .int .i64 ((n : Int) - 1 - (k : Int)) ∧ Hid (OwnI 2 w.heap.size wr v (row.reverse.take k)) ∧ Hid (Ext w wr))
  case atStart => exact ⟨0, by omega, by simp, OwnI.nil _ _ _, Ext.refl _⟩
  case round =>
    obtain ⟨k, hkg, rfl, hO, hE⟩ := hrel
    by_cases hlt : k < n
    · obtain ⟨j, hj⟩ : ∃ j : Nat, j + 1 + k = n := ⟨n - 1 - k, by omega⟩
      obtain ⟨b1, off1, x, rfl, hx, hcx⟩ := (HR.out.ext hE.out).at (show j < row.length by rw [← HN.out]; omega)
      have hxr : row.reverse[k]? = some x := by
        rw [List.getElem?_reverse (by rw [← HN.out]; exact hlt), show row.length - 1 - k = j by rw [← HN.out]; omega]; exact hx
      have HPS := Lib.hid (take_snoc hxr)
      have hij : (n : Int) - 1 - (k : Int) = (j : Int) := by omega
      rw [hij]
      have hja : (0 : Int) ≤ (j : Int) := by omega
      have hjb : (j : Int) < (n : Int) := by omega
      have hw1 : IntKind.i64.wrap ((j : Int) - 1) = (j : Int) - 1 := wrapi64 _ (by omega) (by omega)
      have hql : (row.reverse.take k).length ≤ 5000 := by rw [List.length_take, List.length_reverse, ← HN.out]; omega
      clear hx hxr
      go_wp2_with (at_builtin; first
        | (refine appendN Try.underlying22 Try.info2 wr w.heap.size (row.reverse.take k) x _ _ _ wr.heap.size (by simp) rfl rfl rfl hO.out (Below.size hE.out) hql rfl ?_
           intro v6 w6 hO6 hB6
           have HO6 := Lib.hid hO6
           have HE6 := Lib.hid (show Ext w w6 from Below.trans hE.out hB6)
           clear hO6 hB6)
        | fail)
      go_roundg (n - (k + 1))
      case measure => omega
      case rel => exact ⟨k + 1, by omega, by rw [show (n : Int) - 1 - ((k + 1 : Nat) : Int) = (j : Int) - 1 from by omega], (by rw [HPS.out]; exact HO6.out : OwnI _ _ _ _ _), HE6.out⟩
    · obtain rfl : n = k := by omega
      have hij : (n : Int) - 1 - (n : Int) = -1 := by omega
      rw [hij]
      have HRR := Lib.hid (show Reads wr _ row.reverse from by
        have h1 := hO.out.reads (by rw [List.length_take]; omega)
        rw [List.take_of_length_le (by rw [List.length_reverse, ← HN.out]; exact Nat.le_refl _)] at h1
        exact h1)
      go_wp2
      try rw [Exit.noGoto_ret]
      go_ret
      exact ⟨_, rfl, HRR.out, hE.out⟩
end Go.Proofs.Ytclcippfodjfeaa
namespace Go.Proofs.Ytclcippfodjfeaa
open Go.RowKit
set_option linter.unusedVariables false
set_option linter.unusedSimpArgs false
theorem upIn_succ (row : List Int) (i : Nat) (long : List Int) (k : Nat) : upIn row i long (k + 1) = if rAt row k ≤ rAt row i then max (upIn row i long k) (tAt long k + 1) else upIn row i long k := by
  simp [upIn, List.range_succ]
theorem upIn_bd {row : List Int} {i : Nat} {long : List Int} {M : Int} (hM : 0 ≤ M) : ∀ k, (∀ j, j < k → tAt long j ≤ M) → 1 ≤ upIn row i long k ∧ upIn row i long k ≤ M + 1
  | 0, _ => ⟨by simp [upIn], by simp [upIn]; omega⟩
  | k + 1, h => by
    have ih := upIn_bd (row := row) (i := i) hM k (fun j hj => h j (by omega))
    have h1 := h k (by omega)
    rw [upIn_succ]
    split <;> omega
theorem tAt_put (xs : List Int) (p q : Nat) (x : Int) (hp : p < xs.length) : tAt (xs.set p x) q = if p = q then x else tAt xs q := by
  unfold tAt
  by_cases h : p = q
  · subst h; rw [if_pos rfl, set_getD hp]
  · rw [if_neg h, set_getD_ne h]
theorem up_bd (row : List Int) : ∀ k, k ≤ row.length → ∀ i, 0 ≤ tAt (upTo row k) i ∧ tAt (upTo row k) i ≤ k
  | 0, _, i => by
    have : tAt (upTo row 0) i = 0 := by
      show (List.replicate row.length (0 : Int)).getD i 0 = 0
      rw [List.getD_eq_getElem?_getD, List.getElem?_replicate]; split <;> rfl
    omega
  | k + 1, hk, i => by
    have ih := up_bd row k (by omega)
    have h1 := upIn_bd (row := row) (i := k) (long := upTo row k) (M := k) (by omega) k (fun j _ => (ih j).2)
    show 0 ≤ tAt ((upTo row k).set k _) i ∧ tAt ((upTo row k).set k _) i ≤ _
    rw [tAt_put _ _ _ _ (by rw [upTo_len]; omega)]
    split
    · omega
    · have := ih i; omega
theorem best_bd (row : List Int) : ∀ k, k ≤ row.length → 0 ≤ upBest row k ∧ upBest row k ≤ k
  | 0, _ => by simp [upBest]
  | k + 1, hk => by
    have ih := best_bd row k (by omega)
    have h1 := up_bd row (k + 1) hk k
    show 0 ≤ max (upBest row k) _ ∧ max (upBest row k) _ ≤ _
    omega
set_option maxRecDepth 100000 in
set_option maxHeartbeats 4000000 in
theorem longest45 (v : Value) (row : List Int) (w : World) (hr : Reads w v row) :
    Calls Try.prog 45 #[v] w fun e w' => e = .returned (.int .i64 (upBest row row.length)) ∧ Ext w w' := by
  obtain ⟨hl, ar, cap, rfl⟩ := hr.shape
  obtain ⟨n, hn⟩ : ∃ n, n = row.length := ⟨_, rfl⟩
  rw [← hn] at hr hl ⊢
  have HR := Lib.hid hr; have HN := Lib.hid hn
  have hmk := make23 n (by omega)
  clear hr hn
  go_enter Try.func45, Try.ntmps45
  go_wp2
  clear hmk
  go_loopg [3, 5] n (fun g o i wr => ∃ k : Nat, k + g = n ∧ i = .int .i64 (k : Int) ∧ o = .int .i64 (upBest row k) ∧ Hid (ArrI wr w.heap.size 3 (upTo row k)) ∧ Hid (Ext w wr))
  case atStart =>
    refine ⟨0, by omega, rfl, rfl, ?_, (Ext.refl w).alloc _⟩
    have h1 := ArrI.made w n 3
    have h2 : upTo row 0 = List.replicate n 0 := by rw [HN.out]; rfl
    show ArrI _ _ _ _
    rw [h2]; exact h1
  case round =>
    obtain ⟨k, hkg, rfl, rfl, hA, hE⟩ := hrel
    by_cases hlt : k < n
    · have hkr : k < row.length := by rw [← HN.out]; exact hlt
      have hbb := best_bd row k (by omega)
      have hub := up_bd row k (by omega)
      have hlen := upTo_len row k
      have hlen2 := upTo_len row (k + 1)
      have hin := fun q (hq : q ≤ k) => upIn_bd (row := row) (i := k) (long := upTo row k) (M := k) (by omega) q (fun j _ => (hub j).2)
      have hup : upTo row (k + 1) = (upTo row k).set k (upIn row k (upTo row k) k) := rfl
      have hbst : upBest row (k + 1) = max (upBest row k) (tAt (upTo row (k + 1)) k) := rfl
      rw [hup, tAt_put _ _ _ _ (by rw [hlen]; exact hkr), if_pos rfl] at hbst
      have HIS := Lib.hid (fun q => upIn_succ row k (upTo row k) q)
      have HI0 := Lib.hid (show upIn row k (upTo row k) 0 = 1 from rfl)
      have HUB := Lib.hid hub; have HLEN := Lib.hid hlen; have HIN := Lib.hid hin; have HUP := Lib.hid hup; have HBST := Lib.hid hbst
      generalize upTo row k = long at *
      obtain ⟨bst, hb⟩ : ∃ bst, bst = upBest row k := ⟨_, rfl⟩
      rw [← hb] at HBST hbb ⊢
      have hka : (0 : Int) ≤ (k : Int) := by omega
      have hkb : (k : Int) < (n : Int) := by omega
      have ht1 : (k : Int).toNat = k := by omega
      have cA := hA.out.frozen k
      have cAc := hA.out.cell (p := k) (by rw [hlen]; exact hkr)
      obtain ⟨old, hold⟩ : ∃ old, old = tAt long k := ⟨_, rfl⟩
      rw [← hold] at cAc
      have HA1 := Lib.hid (hA.out.set k (1 : Int))
      have HE1 := Lib.hid (hE.out.set (Nat.le_refl _) k (.int .i64 1))
      clear hub hlen hlen2 hin hup hbst hold hb
      go_wp2
      go_loopg [6] k (fun g2 j wy => ∃ q : Nat, q + g2 = k ∧ j = .int .i64 (q : Int) ∧ Hid (ArrI wy w.heap.size 3 (long.set k (upIn row k long q))) ∧ Hid (Ext w wy))
      case atStart => exact ⟨0, by omega, rfl, (by rw [HI0.out]; exact HA1.out : ArrI _ _ _ _), HE1.out⟩
      case round =>
        clear hA hE cA cAc HA1 HE1
        obtain ⟨q, hqg, rfl, hA, hE⟩ := hrel
        have hc := (HIN.out q (by omega))
        have hs := HIS.out q
        have hll : (long.set k (upIn row k long q)).length = row.length := by rw [List.length_set, HLEN.out]
        have cA := hA.out.frozen k
        have cAc := hA.out.cell (p := k) (by rw [hll]; exact hkr)
        rw [tAt_put _ _ _ _ (by rw [HLEN.out]; exact hkr), if_pos rfl] at cAc
        by_cases hq : q < k
        · have cq := hA.out.cell (p := q) (by rw [hll]; omega)
          rw [tAt_put _ _ _ _ (by rw [HLEN.out]; exact hkr), if_neg (by omega)] at cq
          obtain ⟨b1, off1, x, rfl, hx, hcx⟩ := (HR.out.ext hE.out).at hkr
          obtain ⟨b2, off2, y, hb2, hy, hcy⟩ := (HR.out.ext hE.out).at (show q < row.length by omega)
          cases hb2
          have ex : rAt row k = x := tAt_some hx
          have ey : rAt row q = y := tAt_some hy
          rw [ex, ey] at hs
          have hd := HUB.out q
          obtain ⟨c, hcc⟩ : ∃ c, c = upIn row k long q := ⟨_, rfl⟩
          obtain ⟨d, hdd⟩ : ∃ d, d = tAt long q := ⟨_, rfl⟩
          rw [← hcc] at hs cAc hc
          rw [← hdd] at hs cq hd
          have HS := Lib.hid hs
          have hqa : (0 : Int) ≤ (q : Int) := by omega
          have hqb : (q : Int) < (n : Int) := by omega
          have hqc : (q : Int) < (k : Int) := by omega
          have HAS := Lib.hid (fun (W : World) (h : Ext wr W) (z : Int) => (show ArrI (W.setCell ⟨w.heap.size, k, none⟩ (.int .i64 z)) w.heap.size 3 (long.set k z) from by
            have h1 := (hA.out.ext h).set k z
            rw [List.set_set] at h1; exact h1))
          have hwd : IntKind.i64.wrap (d + 1) = d + 1 := wrapi64 _ (by omega) (by omega)
          have HCC := Lib.hid hcc
          clear hs hx hy ex ey hll hcc hdd
          by_cases hyx : y ≤ x
          · have hdc : decide (y ≤ x) = true := decide_eq_true hyx
            rw [if_pos hyx] at HS
            go_wp2
            go_quiet (fail)
            go_wp2
            refine any_world ((Ext.refl wr).drewN _) fun W hEW => ?_
            have HEW := Lib.hid hEW
            have dA : W.frozen? ⟨w.heap.size, k, none⟩ = false := (hA.out.ext hEW).frozen k
            have dAc := cell_ext hEW cAc
            have dq := cell_ext hEW cq
            clear cA cAc cq hcx hcy hEW
            rcases Int.lt_trichotomy c (d + 1) with h | h | h
            all_goals
              go_region_law (fail)
              all_goals
                go_wp2
                go_roundg (k - (q + 1))
                case measure => omega
                case rel =>
                  refine ⟨q + 1, by omega, by go_num, ?_, ?_⟩
                  · show ArrI _ _ _ _
                    rw [HS.out]
                    first
                      | (rw [show max c (d + 1) = d + 1 by omega]; exact (HAS.out _ HEW.out _).ext (Ext.refl _).drew)
                      | (rw [show max c (d + 1) = c by omega]; exact (HAS.out _ HEW.out _).ext (Ext.refl _).drew)
                  · exact Ext.drew ((hE.out.trans HEW.out).set (Nat.le_refl _) _ _)
          · have hdc : decide (y ≤ x) = false := decide_eq_false hyx
            rw [if_neg hyx] at HS
            go_wp2
            go_quiet (fail)
            go_wp2
            go_roundg (k - (q + 1))
            case measure => omega
            case rel => exact ⟨q + 1, by omega, by go_num, (by rw [HS.out, HCC.out]; exact hA.out.ext ((Ext.refl wr).drewN _) : ArrI _ _ _ _), hE.out.drewN _⟩
        · obtain rfl : q = k := by omega
          have hbst := HBST.out
          obtain ⟨c, hcc⟩ : ∃ c, c = upIn row q long q := ⟨_, rfl⟩
          rw [← hcc] at hbst cAc hc
          have HB2 := Lib.hid hbst
          have HA2 := Lib.hid (show ArrI wr w.heap.size 3 (upTo row (q + 1)) from by rw [HUP.out]; exact hA.out)
          clear hbst hcc hs
          rcases Int.lt_trichotomy bst c with h | h | h
          all_goals
            go_wp2
            go_roundg (n - (q + 1))
            case measure => omega
            case rel => exact ⟨q + 1, by omega, by go_num, by rw [HB2.out]; first | (rw [show max bst c = c by omega]; done) | (rw [show max bst c = bst by omega]; done) | (rw [show max bst c = c by omega]; rfl) | (rw [show max bst c = bst by omega]; rfl), HA2.out, hE.out⟩
    · obtain rfl : n = k := by omega
      obtain ⟨bst, hb⟩ : ∃ bst, bst = upBest row n := ⟨_, rfl⟩
      rw [← hb]
      have HB := Lib.hid hb
      clear hb
      go_wp2
      try rw [Exit.noGoto_ret]
      go_ret
      exact ⟨by rw [← HB.out]; rfl, hE.out⟩
end Go.Proofs.Ytclcippfodjfeaa
