/- Lists of a call's own: element read, stored; place, by its contract. Lists of lists in memory; every, isParted, CheckRuns, by their contracts. isParted, CheckRuns, by their contracts. CheckRuns, by its contract. -/
import Derived.Test.YtclcippfodjfeaaB4
import Derived.Lib.BufferOwn
namespace Go.Proofs.Ytclcippfodjfeaa
open Go.RowKit
set_option linter.unusedVariables false
set_option linter.unusedSimpArgs false
theorem OwnI.at {e : TypeId} {B m cap : Nat} {w : World} {a : Option Addr} {xs : List Int} (h : OwnI e B w (.slice a m cap) xs) {p : Nat} (hp : p < xs.length) :
    ∃ g, a = some ⟨g, 0, none⟩ ∧ B ≤ g ∧ g < w.heap.size ∧ w.cell? ⟨g, p, none⟩ = some (.int .i64 (tAt xs p)) ∧ w.frozen? ⟨g, p, none⟩ = false ∧ ∀ x, OwnI e B (w.setCell ⟨g, p, none⟩ (.int .i64 x)) (.slice a m cap) (xs.set p x) := by
  obtain ⟨a', cap', hv, hc⟩ := h.shape
  cases hv
  rcases h.2 with ⟨h1, h2⟩ | ⟨g, cap', cur, h1, hB, hg, _⟩
  · exfalso; omega
  · cases h1
    refine ⟨g, rfl, hB, lt_of_blk hg, ?_, World.ownsRow.frozenAt h p, fun x => ?_⟩
    · have h3 := World.ownsRow.cellAt h p (by omega)
      rw [h3, List.getElem?_map, some_tAt hp]; rfl
    · have h3 := (World.ownsRow.stored h p (.int .i64 x)).1
      show World.ownsRow _ _ _ _ _ _ _
      rw [List.length_set, List.map_set]
      exact h3
/-- 'append(s, x)' onto a list of the call's own, the new cell's block by its number. -/
theorem appendN {t e : TypeId} (hte : Try.prog.underlying t = some (.slice e)) (hie : (Try.prog.info? e).map (fun i => (i.zero, i.size, i.bytes)) = some (some (.int .i64 0), 1, 8))
    {ops : Array Oper} {rest : List Oper} {o : Oper} {a : Act} {Q : Exit → Act → World → Prop} (w : World) (B : Nat) (xs : List Int) (x : Int) (v : Value) (s u : Operand) (N : Nat) (hN : N = w.heap.size) (hgd : o.guard = none)
    (ho : o.op = .call { callee := .builtin .append, args := #[s, u], argTypes := #[t, t] }) (hs : a.eval s = v) (hown : OwnI e B w v xs) (hB : B ≤ w.heap.size) (hl : xs.length ≤ 5000)
    (hx : a.eval u = .slice (some ⟨N, 0, none⟩) 1 1)
    (h : ∀ v' w', OwnI e B w' v' (xs ++ [x]) → Below B w w' → wpList Try.prog ops Q rest (a.put o.dst v') w') : wpList Try.prog ops Q (o :: rest) a (w.alloc (.cells #[.int .i64 x] e)) := by
  subst hN
  exact appendI hte hie w B xs x v s u hgd ho hs hown hB hl hx h
theorem Try.info2 : (Try.prog.info? 2).map (fun i => (i.zero, i.size, i.bytes)) = some (some (.int .i64 0), 1, 8) := by kernel_rfl
theorem Try.info3 : (Try.prog.info? 3).map (fun i => (i.zero, i.size, i.bytes)) = some (some (.int .i64 0), 1, 8) := by kernel_rfl
theorem make23 (n : Nat) (h : n ≤ 100000) (w : World) : (Instr.makeSlice 23 (.int .i64 (n : Int)) (.int .i64 (n : Int))).run Try.prog w = .ok (.slice (some ⟨w.heap.size, 0, none⟩) n n) (w.alloc (.cells (madeCells #[.int .i64 0] n) 3)) :=
  run_make_row' 23 3 (.int .i64 0) 8 Try.underlying23 Try.info3 rfl .i64 .i64 n (by omega) (by omega) w
theorem make22 (n : Nat) (h : n ≤ 100000) (w : World) : (Instr.makeSlice 22 (.int .i64 (n : Int)) (.int .i64 (n : Int))).run Try.prog w = .ok (.slice (some ⟨w.heap.size, 0, none⟩) n n) (w.alloc (.cells (madeCells #[.int .i64 0] n) 2)) :=
  run_make_row' 22 2 (.int .i64 0) 8 Try.underlying22 Try.info2 rfl .i64 .i64 n (by omega) (by omega) w
theorem made_zero (n : Nat) : madeCells #[.int .i64 0] n = (intC (List.replicate n (0 : Int))).toArray := by
  apply Array.toList_inj.1
  rw [toList_madeCells_one]
  simp [intC]
theorem ArrI.made (w : World) (n t : Nat) : ArrI (w.alloc (.cells (madeCells #[.int .i64 0] n) t)) w.heap.size t (List.replicate n 0) := by
  unfold ArrI; rw [heap_alloc_new, made_zero]
theorem ArrI.other {W W' : World} {b g t : Nat} {xs : List Int} (h : ArrI W b t xs) (hg : W.grownBy W' (some g)) (hne : b ≠ g) : ArrI W' b t xs := (other_blk hg hne (lt_of_blk h)).trans h
theorem ArrI.ext {W W' : World} {b t : Nat} {xs : List Int} (h : ArrI W b t xs) (hE : Ext W W') : ArrI W' b t xs := block_ext hE h
theorem ArrI.reads {W : World} {b t : Nat} {xs : List Int} (h : ArrI W b t xs) (hl : xs.length ≤ 5000) {m cap : Nat} (hm : m = xs.length) (hc : m ≤ cap ∧ cap ≤ 9223372036854775807) : Reads W (.slice (some ⟨b, 0, none⟩) m cap) xs := by
  subst hm
  refine ⟨hl, _, cap, rfl, hc, .inr ⟨b, 0, rfl, fun i hi => ?_⟩⟩
  rw [Nat.zero_add, h.cell hi, some_tAt hi]; rfl
/-- Where the first logs are turned; 0 for the others. -/
def tnK (row : List Int) (k : Nat) : List Int := ((plTo row k).2.map fun (n : Nat) => (n : Int)) ++ List.replicate (row.length - k) 0
theorem tnK_set {row : List Int} {k : Nat} (h : k < row.length) : (tnK row k).set k (firstP (plTo row k).1 (rAt row k) : Int) = tnK row (k + 1) := by
  unfold tnK
  obtain ⟨d, hd⟩ : ∃ d, row.length - k = d + 1 := ⟨row.length - k - 1, by omega⟩
  rw [hd, show row.length - (k + 1) = d by omega]
  show _ = ((plTo row k).2 ++ [firstP (plTo row k).1 (rAt row k)]).map _ ++ _
  rw [List.set_append_right _ _ (by simp [pl_len])]
  simp [pl_len, List.replicate_succ]
theorem tnK_all (row : List Int) : tnK row row.length = placeI row := by simp [tnK, placeI, placeM]
theorem tnK_len (row : List Int) {k : Nat} (h : k ≤ row.length) : (tnK row k).length = row.length := by simp [tnK, pl_len]; omega
theorem place_len (row : List Int) : (placeI row).length = row.length := by rw [← tnK_all, tnK_len row (Nat.le_refl _)]
theorem firstP_hit {last : List Int} {x : Int} {q : Nat} (h : ∀ i, i < q → x < tAt last i) (hq : q < last.length) (hx : tAt last q ≤ x) : firstP last x = q := firstP_of h (.inr ⟨hq, hx⟩)
theorem firstP_none {last : List Int} {x : Int} (h : ∀ i, i < last.length → x < tAt last i) : firstP last x = last.length := firstP_of h (.inl rfl)
/-- What place hands back: a list of its own. -/
def OwnList (w : World) (xs : List Int) (e : Ending) (w' : World) : Prop := ∃ b, w.heap.size ≤ b ∧ e = .returned (.slice (some ⟨b, 0, none⟩) xs.length xs.length) ∧ ArrI w' b 3 xs ∧ Ext w w'
set_option maxRecDepth 100000 in
set_option maxHeartbeats 4000000 in
theorem place57 (v : Value) (row : List Int) (w : World) (hr : Reads w v row) :
    Calls Try.prog 57 #[.agg #[v]] w (OwnList w (placeI row)) := by
  obtain ⟨hl, ar, cap, rfl⟩ := hr.shape
  obtain ⟨n, hn⟩ : ∃ n, n = row.length := ⟨_, rfl⟩
  rw [← hn] at hr ⊢
  have hn5 : n ≤ 5000 := by omega
  have hmk := make23 n (by omega)
  have HR := Lib.hid hr; have HNL := Lib.hid hn
  clear hr hn hl
  go_enter Try.func57, Try.ntmps57
  go_wp2
  go_step3
  go_wp2
  clear hmk
  go_step3
  go_wp2
  go_loopg [4, 15] n (fun g v i wr => ∃ k : Nat, k + g = n ∧ i = .int .i64 (k : Int) ∧ Hid (OwnI 2 (w.heap.size + 2) wr v (plTo row k).1) ∧ Hid (ArrI wr (w.heap.size + 1) 3 (tnK row k)) ∧ Hid (wr.cell? ⟨w.heap.size, 0, none⟩ = some (.slice ar n cap)) ∧ Hid (Ext w wr))
  case atStart =>
    refine ⟨0, by omega, rfl, OwnI.nil _ _ _, ?_, ?_, ((Ext.refl w).alloc _).alloc _⟩
    · have h1 := ArrI.made (w.alloc (.cells #[.slice ar n cap] 57)) n 3
      rw [World.size_alloc] at h1
      have h2 : tnK row 0 = List.replicate n 0 := by simp [tnK, plTo, HNL.out]
      show ArrI _ _ _ _
      rw [h2]; exact h1
    · exact cell_ext ((Ext.refl _).alloc _) (show (w.alloc (.cells #[.slice ar n cap] 57)).cell? ⟨w.heap.size, 0, none⟩ = some (.slice ar n cap) from World.cell?_alloc_at _ _ _ _ rfl)
  case round =>
    obtain ⟨k, hkg, rfl, hO, hA, hC, hE⟩ := hrel
    obtain ⟨wo, rfl⟩ : ∃ wo : World, wo = wr := ⟨_, rfl⟩
    by_cases hlt : k < n
    · obtain ⟨b1, off1, x, rfl, hx, hcx⟩ := (HR.out.ext hE.out).at (show k < row.length by rw [← HNL.out]; exact hlt)
      have hx' : rAt row k = x := tAt_some hx
      have hset := tnK_set (row := row) (k := k) (by rw [← HNL.out]; exact hlt)
      have hpl : (plTo row (k + 1)).1 = plLast (plTo row k).1 (rAt row k) := rfl
      have hll := pl_last_le row k
      have htl := tnK_len row (k := k) (by rw [← HNL.out]; omega)
      unfold plLast at hpl
      rw [hx'] at hset hpl
      generalize (plTo row k).1 = last at *
      generalize tnK row k = tn at *
      have hO2 := hO.out; have hA2 := hA.out
      obtain ⟨av, capv, hv, hcv⟩ := hO2.shape
      subst hv
      obtain ⟨m, hm⟩ : ∃ m, m = last.length := ⟨_, rfl⟩
      rw [← hm] at hO hO2 hll hcv hpl ⊢
      have hka : (0 : Int) ≤ (k : Int) := by omega
      have hkb : (k : Int) < (n : Int) := by omega
      have ht1 : (k : Int).toNat = k := by omega
      have cA := hA2.frozen k
      have hsz1 := lt_of_blk hA2
      have HX := Lib.hid hx; have HS := Lib.hid hset; have HPL := Lib.hid hpl; have HM := Lib.hid hm
      have HTL := Lib.hid (show k < tn.length by rw [htl, ← HNL.out]; exact hlt)
      clear hx hx' hset hpl hm htl hO2 hA2
      go_wp2
      go_loopg [22] m (fun g2 j wy => ∃ q : Nat, q + g2 = m ∧ j = .int .i64 (q : Int) ∧ Hid (∀ i, i < q → x < tAt last i) ∧ wo = wy)
      case atStart => exact ⟨0, by omega, rfl, fun i h => by omega, rfl⟩
      case round =>
        obtain ⟨q, hqg, rfl, hI, rfl⟩ := hrel
        by_cases hq : q < m
        · obtain ⟨gv, rfl, hgB, hgl, hcq, hfq, hst⟩ := hO.out.at (p := q) (by rw [← HM.out]; exact hq)
          obtain ⟨y, hy⟩ : ∃ y, y = tAt last q := ⟨_, rfl⟩
          rw [← hy] at hcq
          have HY := Lib.hid hy; have HST := Lib.hid hst
          clear hy hst
          have hqa : (0 : Int) ≤ (q : Int) := by omega
          have hqb : (q : Int) < (m : Int) := by omega
          have ht2 : (q : Int).toNat = q := by omega
          by_cases hyx : y ≤ x
          · have hA3 := ArrI.other hA.out (grown_set wo gv q (.int .i64 x)) (by omega)
            have cAf := hA3.frozen k
            have cAc := hA3.cell HTL.out
            have HA3 := Lib.hid hA3
            clear hA3
            go_wp2
            go_roundg (n - (k + 1))
            case measure => omega
            case rel =>
              have hp : firstP last x = q := firstP_hit hI.out (by rw [← HM.out]; exact hq) (by rw [← HY.out]; exact hyx)
              refine ⟨k + 1, by omega, by go_num, ?_, ?_, ?_, ((hE.out.set (by omega) _ _).set (by omega) _ _)⟩
              · show OwnI _ _ _ _ _
                rw [HPL.out, hp, if_neg (by omega)]
                exact (HST.out x).grown (grown_set _ _ _ _) (by omega)
              · show ArrI _ _ _ _
                rw [← HS.out, hp]
                exact HA3.out.set _ _
              · exact far_ (far_ hC.out (by omega)) (by omega)
          · go_wp2
            go_roundg (m - (q + 1))
            case measure => omega
            case rel => exact ⟨q + 1, by omega, by go_num, fun i hi => by
              rcases Nat.lt_succ_iff_lt_or_eq.1 hi with h | h
              · exact hI.out i h
              · subst h; rw [← HY.out]; omega, rfl⟩
        · obtain rfl : q = m := by omega
          have hp : firstP last x = last.length := firstP_none (by rw [← HM.out]; exact hI.out)
          have HP := Lib.hid hp; clear hp
          have hA3 := ArrI.set hA.out k (q : Int)
          have cAc := hA.out.cell HTL.out
          have HA3 := Lib.hid hA3
          have HO3 := Lib.hid (hO.out.grown (grown_set wo (w.heap.size + 1) k (.int .i64 (q : Int))) (by omega))
          have hsz : w.heap.size + 2 ≤ wo.heap.size := by omega
          have hql : last.length ≤ 5000 := by rw [← HM.out]; omega
          clear hA3
          go_wp2_with (at_builtin; first
            | (refine appendN Try.underlying22 Try.info2 (wo.setCell ⟨w.heap.size + 1, k, none⟩ (.int .i64 (q : Int))) (w.heap.size + 2) last x _ _ _ wo.heap.size (by simp) rfl rfl rfl HO3.out (by simp; omega) hql rfl ?_
               intro v6 w6 hO6 hB6
               have HO6 := Lib.hid hO6
               have HB6 := Lib.hid hB6
               clear hO6 hB6)
            | fail)
          go_roundg (n - (k + 1))
          case measure => omega
          case rel =>
            refine ⟨k + 1, by omega, by go_num, ?_, ?_, ?_, ?_⟩
            · show OwnI _ _ _ _ _
              rw [HPL.out, HP.out, if_pos HM.out.symm]
              exact HO6.out
            · show ArrI _ _ _ _
              rw [← HS.out, HP.out, ← HM.out]
              exact (HB6.out.block _ (by omega)).trans HA3.out
            · exact (HB6.out.cell (p := ⟨w.heap.size, 0, none⟩) (by simp)).trans (far_ hC.out (by omega))
            · exact Below.trans (hE.out.set (b := w.heap.size + 1) (by omega) k (.int .i64 (q : Int))) (HB6.out.mono (by omega))
    · obtain rfl : k = n := by omega
      go_wp2
      rw [Exit.noGoto_ret]
      go_ret
      have hAll := tnK_all row
      rw [← HNL.out] at hAll
      refine ⟨w.heap.size + 1, by omega, by rw [place_len, ← HNL.out]; rfl, ?_, hE.out⟩
      rw [← hAll]; exact hA.out

/-- What Place, Run, Turning and so on hand back: a list, or an error. -/
def ListOr (w : World) (c : Int) (xs : List Int) (e : Ending) (w' : World) : Prop := (c ≠ 0 ∧ e = .returned (.tuple #[.slice none 0 0, .int .i64 c]) ∨ c = 0 ∧ ∃ b, w.heap.size ≤ b ∧ e = .returned (.tuple #[.slice (some ⟨b, 0, none⟩) xs.length xs.length, .int .i64 0]) ∧ ArrI w' b 3 xs) ∧ Ext w w'
theorem place31 (v : Value) (row : List Int) (w : World) (hr : Reads w v row) :
    Calls Try.prog 31 #[v] w (ListOr w (chkR row) (placeI row)) := by
  obtain ⟨hlr, a, cap, rfl⟩ := hr.shape
  have H48 := Lib.hid (open_none _ row w hr)
  have H57 := Lib.hid (fun (X : World) (h : Ext w X) => place57 _ row X (hr.ext h))
  clear hr
  generalize chkR row = c at *
  by_cases hc : c = 0
  · subst hc
    go_enter Try.func31, Try.ntmps31
    go_wp2_with fail
    refine H48.out.mono ?_
    rintro e w1 ⟨rfl, hb⟩
    have E1 := Lib.hid (hb.alloc (.cells #[.slice a row.length cap] 57)); clear hb
    go_wp2_with fail
    refine (H57.out _ E1.out).mono ?_
    rintro e w2 ⟨b, hbn, rfl, hA, hb⟩
    have E2 := Lib.hid (E1.out.trans hb)
    have HA := Lib.hid hA
    have HN := Lib.hid (Nat.le_trans E1.out.size hbn)
    clear hb hA hbn
    go_wp2
    go_ret2
    exact ⟨.inr ⟨rfl, b, HN.out, rfl, HA.out⟩, E2.out⟩
  · have hb : (c != 0) = true := by simpa using hc
    have HC := Lib.hid hc
    have H48 := Lib.hid (by have h := H48.out; rw [if_neg hc] at h; exact h)
    clear hc
    go_enter Try.func31, Try.ntmps31
    go_wp2_with fail
    refine H48.out.mono ?_
    rintro e w1 ⟨rfl, hb1⟩
    have E1 := Lib.hid (hb1.alloc (.cells #[.slice none 0 0] 57)); clear hb1
    go_wp2
    go_ret2
    exact ⟨.inl ⟨HC.out, rfl⟩, E1.out⟩
end Go.Proofs.Ytclcippfodjfeaa
namespace Go.Proofs.Ytclcippfodjfeaa
open Go.RowKit
set_option linter.unusedVariables false
set_option linter.unusedSimpArgs false
/-- A slice of slices of ints that reads as a list of lists. -/
def ReadsL (w : World) (v : Value) (rs : List (List Int)) : Prop :=
  rs.length ≤ 5000 ∧ ∃ a cap, v = .slice a rs.length cap ∧ (rs.length ≤ cap ∧ cap ≤ 9223372036854775807) ∧ (rs = [] ∨ ∃ b off, a = some ⟨b, off, none⟩ ∧ ∀ i, i < rs.length → ∃ u, w.cell? ⟨b, off + i, none⟩ = some u ∧ Reads w u (rs.getD i []))
theorem ReadsL.ext {w w' : World} {v : Value} {rs : List (List Int)} (h : ReadsL w v rs) (hb : Ext w w') : ReadsL w' v rs := by
  obtain ⟨hl, a, cap, rfl, hcap, h⟩ := h
  refine ⟨hl, a, cap, rfl, hcap, h.imp id ?_⟩
  rintro ⟨b, off, rfl, hc⟩
  refine ⟨b, off, rfl, fun i hi => ?_⟩
  obtain ⟨u, h1, h2⟩ := hc i hi
  exact ⟨u, cell_ext hb h1, h2.ext hb⟩
theorem ReadsL.nil (w : World) : ReadsL w (.slice none 0 0) [] := ⟨by simp, none, 0, rfl, ⟨Nat.le_refl _, by omega⟩, .inl rfl⟩
theorem ReadsL.shape {w : World} {v : Value} {rs : List (List Int)} (h : ReadsL w v rs) : rs.length ≤ 5000 ∧ ∃ a cap, v = .slice a rs.length cap := ⟨h.1, let ⟨a, cap, e, _⟩ := h.2; ⟨a, cap, e⟩⟩
theorem ReadsL.at {w : World} {a : Option Addr} {n cap : Nat} {rs : List (List Int)} (h : ReadsL w (.slice a n cap) rs) {k : Nat} (hk : k < rs.length) :
    ∃ b off a' cap' r, a = some ⟨b, off, none⟩ ∧ rs[k]? = some r ∧ w.cell? ⟨b, off + k, none⟩ = some (.slice a' r.length cap') ∧ Reads w (.slice a' r.length cap') r := by
  obtain ⟨hl, a', cap', e, -, h⟩ := h
  cases e
  rcases h with rfl | ⟨b, off, rfl, hc⟩
  · simp at hk
  · obtain ⟨u, h1, h2⟩ := hc k hk
    obtain ⟨hl2, a2, cap2, rfl⟩ := h2.shape
    have e : rs.getD k [] = rs[k] := by rw [List.getD_eq_getElem?_getD, List.getElem?_eq_getElem hk]; rfl
    rw [e] at h1 h2
    exact ⟨b, off, a2, cap2, rs[k], rfl, by simp [hk], h1, h2⟩
set_option maxHeartbeats 1000000 in
theorem every61_58 (v vl : Value) (row : List Int) (rs : List (List Int)) (w : World) (hr : Reads w v row) (hl : ReadsL w vl rs) :
    Calls Try.prog 61 #[vl, .func (.func 58) #[.agg #[v]] #[]] w fun e w' => e = .returned (.bool (rs.all (listB row.length))) ∧ Ext w w' := by
  obtain ⟨hlr, ar, capr, rfl⟩ := hr.shape
  obtain ⟨hll, a, cap, rfl⟩ := hl.shape
  have hl3 : rs.length ≤ 9223372036854775807 := by omega
  have HF := Lib.hid (fun (X : World) (h : Ext w X) (u : Value) (r : List Int) (hm : r ∈ rs) (hq : Reads X u r) => lists58 _ u row r X (hr.ext h) hq)
  have HL := Lib.hid hl
  obtain ⟨n, hn⟩ : ∃ n, n = rs.length := ⟨_, rfl⟩
  rw [← hn] at HL hl3 ⊢
  have HN := Lib.hid hn
  clear hr hl hn
  go_enter Try.func61, Try.ntmps61
  go_wp2
  go_loopw [9] (fun i wr => ∃ k : Nat, k ≤ n ∧ i = .int .i64 (k : Int) ∧ Hid ((rs.take k).all (listB row.length) = true) ∧ Hid (Ext w wr)) (fun i wr => n - (intOf i).toNat)
  case atStart => exact ⟨0, Nat.zero_le _, rfl, (by rfl : _ = true), Ext.refl _⟩
  case round =>
    obtain ⟨k, hk, rfl, hI, hE⟩ := hrel
    by_cases hlt : k < n
    · obtain ⟨b, off, ak, capk, r, rfl, hx, hck, hrk⟩ := (HL.out.ext hE.out).at (show k < rs.length by rw [← HN.out]; exact hlt)
      have hm : r ∈ rs := List.mem_of_getElem? hx
      have ht := take_snoc hx
      have hc := HF.out wr hE.out _ r hm hrk
      have hs : (rs.take (k + 1)).all (listB row.length) = (listB row.length) r := by rw [ht, List.all_append, hI.out]; simp
      have hno : (listB row.length) r = false → rs.all (listB row.length) = false := fun h => List.all_eq_false.2 ⟨r, hm, by simp [h]⟩
      obtain ⟨c, hcc⟩ : ∃ c, c = (listB row.length) r := ⟨_, rfl⟩
      rw [← hcc] at hs hno
      have hc : Calls Try.prog 58 #[.agg #[.slice ar row.length capr], .slice ak r.length capk] wr fun e w' => e = .returned (.bool c) ∧ Ext wr w' := by rw [hcc]; exact hc
      have HC := Lib.hid hc; have HS := Lib.hid hs; have HNO := Lib.hid hno
      have hka : (0 : Int) ≤ (k : Int) := by omega
      have hkb : (k : Int) < (n : Int) := by omega
      clear hx hm ht hc hs hno hcc hrk
      generalize r.length = nr at *
      go_wp2_with fail
      refine HC.out.mono ?_
      rintro e w5 ⟨rfl, hb⟩
      have HE := Lib.hid (hE.out.trans hb); clear hb
      cases c
      · go_wp2
        go_ret
        exact ⟨ret_bool (HNO.out trivial).symm, HE.out⟩
      · go_wp2
        go_roundw
        case rel => exact ⟨k + 1, by omega, by go_num, HS, HE⟩
        case measure => simp [intOf]; omega
    · obtain rfl : k = n := by omega
      go_wp2
      go_ret
      have h1 := hI.out
      rw [HN.out, List.take_of_length_le (Nat.le_refl _)] at h1
      exact ⟨ret_bool h1.symm, hE.out⟩
set_option maxHeartbeats 1000000 in
theorem every61_59 (v vl : Value) (row : List Int) (rs : List (List Int)) (w : World) (hr : Reads w v row) (hl : ReadsL w vl rs) (hin : rs.all (listB row.length) = true) :
    Calls Try.prog 61 #[vl, .func (.func 59) #[.agg #[v]] #[]] w fun e w' => e = .returned (.bool (rs.all (decB row))) ∧ Ext w w' := by
  obtain ⟨hlr, ar, capr, rfl⟩ := hr.shape
  obtain ⟨hll, a, cap, rfl⟩ := hl.shape
  have hl3 : rs.length ≤ 9223372036854775807 := by omega
  have HF := Lib.hid (fun (X : World) (h : Ext w X) (u : Value) (r : List Int) (hm : r ∈ rs) (hq : Reads X u r) => run59 _ u row r X (hr.ext h) hq (by have h1 := List.all_eq_true.1 hin r hm; unfold listB at h1; rw [Bool.and_eq_true] at h1; exact h1.1))
  have HL := Lib.hid hl
  obtain ⟨n, hn⟩ : ∃ n, n = rs.length := ⟨_, rfl⟩
  rw [← hn] at HL hl3 ⊢
  have HN := Lib.hid hn
  clear hr hl hn
  go_enter Try.func61, Try.ntmps61
  go_wp2
  go_loopw [9] (fun i wr => ∃ k : Nat, k ≤ n ∧ i = .int .i64 (k : Int) ∧ Hid ((rs.take k).all (decB row) = true) ∧ Hid (Ext w wr)) (fun i wr => n - (intOf i).toNat)
  case atStart => exact ⟨0, Nat.zero_le _, rfl, (by rfl : _ = true), Ext.refl _⟩
  case round =>
    obtain ⟨k, hk, rfl, hI, hE⟩ := hrel
    by_cases hlt : k < n
    · obtain ⟨b, off, ak, capk, r, rfl, hx, hck, hrk⟩ := (HL.out.ext hE.out).at (show k < rs.length by rw [← HN.out]; exact hlt)
      have hm : r ∈ rs := List.mem_of_getElem? hx
      have ht := take_snoc hx
      have hc := HF.out wr hE.out _ r hm hrk
      have hs : (rs.take (k + 1)).all (decB row) = (decB row) r := by rw [ht, List.all_append, hI.out]; simp
      have hno : (decB row) r = false → rs.all (decB row) = false := fun h => List.all_eq_false.2 ⟨r, hm, by simp [h]⟩
      obtain ⟨c, hcc⟩ : ∃ c, c = (decB row) r := ⟨_, rfl⟩
      rw [← hcc] at hs hno
      have hc : Calls Try.prog 59 #[.agg #[.slice ar row.length capr], .slice ak r.length capk] wr fun e w' => e = .returned (.bool c) ∧ Ext wr w' := by rw [hcc]; exact hc
      have HC := Lib.hid hc; have HS := Lib.hid hs; have HNO := Lib.hid hno
      have hka : (0 : Int) ≤ (k : Int) := by omega
      have hkb : (k : Int) < (n : Int) := by omega
      clear hx hm ht hc hs hno hcc hrk
      generalize r.length = nr at *
      go_wp2_with fail
      refine HC.out.mono ?_
      rintro e w5 ⟨rfl, hb⟩
      have HE := Lib.hid (hE.out.trans hb); clear hb
      cases c
      · go_wp2
        go_ret
        exact ⟨ret_bool (HNO.out trivial).symm, HE.out⟩
      · go_wp2
        go_roundw
        case rel => exact ⟨k + 1, by omega, by go_num, HS, HE⟩
        case measure => simp [intOf]; omega
    · obtain rfl : k = n := by omega
      go_wp2
      go_ret
      have h1 := hI.out
      rw [HN.out, List.take_of_length_le (Nat.le_refl _)] at h1
      exact ⟨ret_bool h1.symm, hE.out⟩
end Go.Proofs.Ytclcippfodjfeaa
namespace Go.Proofs.Ytclcippfodjfeaa
open Go.RowKit
set_option linter.unusedVariables false
set_option linter.unusedSimpArgs false
/-- In how many lists each log is, so far. -/
structure Ct (runs : List (List Int)) (i k : Nat) (ins : List Int) : Prop where
  len : ins.length = 30
  is : ∀ j, j < 30 → tAt ins j = ((inCnt (runs.take i) j + (toN ((runs.getD i []).take k)).count j : Nat) : Int)
  bd : ∀ j, j < 30 → tAt ins j ≤ (i : Int) * 5000 + (k : Int)
theorem tAt_setI {xs : List Int} {p : Nat} (hp : p < xs.length) (x : Int) (q : Nat) : tAt (xs.set p x) q = if q = p then x else tAt xs q := by
  unfold tAt
  rw [List.getD_eq_getElem?_getD, List.getD_eq_getElem?_getD, List.getElem?_set]
  by_cases h : p = q
  · subst h; simp [hp]
  · rw [if_neg h, if_neg (fun e => h e.symm)]
theorem Ct.start (runs : List (List Int)) : Ct runs 0 0 (List.replicate 30 0) :=
  ⟨by simp, fun j hj => by unfold tAt; rw [List.getD_eq_getElem?_getD, List.getElem?_replicate, if_pos hj]; simp [inCnt, toN], fun j hj => by unfold tAt; rw [List.getD_eq_getElem?_getD, List.getElem?_replicate, if_pos hj]; simp⟩
theorem Ct.step {runs : List (List Int)} {i k p : Nat} {ins r : List Int} (h : Ct runs i k ins) (hr : runs[i]? = some r) (hk : r[k]? = some (p : Int)) (hp : p < 30) : Ct runs i (k + 1) (ins.set p (tAt ins p + 1)) := by
  have e : runs.getD i [] = r := by rw [List.getD_eq_getElem?_getD, hr]; rfl
  refine ⟨by simp [h.len], fun j hj => ?_, fun j hj => ?_⟩
  · rw [tAt_setI (by rw [h.len]; exact hp)]
    have h1 := h.is j hj
    rw [e] at h1 ⊢
    rw [take_snoc hk]
    have : toN (r.take k ++ [(p : Int)]) = toN (r.take k) ++ [p] := by simp [toN]
    rw [this, List.count_append, List.count_singleton]
    by_cases hjp : j = p
    · subst hjp; rw [if_pos rfl, h1]; simp; omega
    · rw [if_neg hjp, h1, if_neg (by simpa using fun e => hjp e.symm)]; simp
  · rw [tAt_setI (by rw [h.len]; exact hp)]
    have := h.bd j hj
    split
    · rename_i e; subst e; omega
    · omega
theorem Ct.next {runs : List (List Int)} {i : Nat} {ins r : List Int} (h : Ct runs i r.length ins) (hr : runs[i]? = some r) (hl : r.length ≤ 5000) : Ct runs (i + 1) 0 ins := by
  have e : runs.getD i [] = r := by rw [List.getD_eq_getElem?_getD, hr]; rfl
  refine ⟨h.len, fun j hj => ?_, fun j hj => ?_⟩
  · rw [h.is j hj, e, take_snoc hr, List.take_of_length_le (Nat.le_refl _)]
    unfold inCnt
    rw [List.map_append, List.sum_append]
    simp [toN]
  · have := h.bd j hj; omega
theorem Ct.part {runs : List (List Int)} {ins : List Int} (h : Ct runs runs.length 0 ins) {j : Nat} (hj : j < 30) : tAt ins j = (inCnt runs j : Int) := by
  rw [h.is j hj, List.take_of_length_le (Nat.le_refl _)]; simp [toN]
theorem partB_no {n j : Nat} {runs : List (List Int)} (hj : j < n) (h : inCnt runs j ≠ 1) : partB n runs = false := List.all_eq_false.2 ⟨j, List.mem_range.2 hj, by simpa using h⟩
set_option maxRecDepth 100000 in
set_option maxHeartbeats 4000000 in
theorem parted62 (v vl : Value) (row : List Int) (rs : List (List Int)) (w : World) (hr : Reads w v row) (hl : ReadsL w vl rs) (hn : row.length ≤ 30) (hin : rs.all (listB row.length) = true) :
    Calls Try.prog 62 #[.agg #[v], vl] w fun e w' => e = .returned (.bool (partB row.length rs)) ∧ Ext w w' := by
  obtain ⟨hlr, ar, capr, rfl⟩ := hr.shape
  obtain ⟨hll, a, cap, rfl⟩ := hl.shape
  have hat : ∀ (i : Nat) (r : List Int), rs[i]? = some r → ∀ (k : Nat) (x : Int), r[k]? = some x → 0 ≤ x ∧ x < 30 := fun i r hi k x hk => by
    have h1 := List.all_eq_true.1 hin r (List.mem_of_getElem? hi)
    unfold listB at h1; rw [Bool.and_eq_true] at h1
    have h2 := List.all_eq_true.1 h1.1 x (List.mem_of_getElem? hk)
    simp at h2; omega
  have HL := Lib.hid hl; have HAT := Lib.hid hat; have HR := Lib.hid hr
  obtain ⟨m, hm⟩ : ∃ m, m = rs.length := ⟨_, rfl⟩
  obtain ⟨n, hnn⟩ : ∃ n, n = row.length := ⟨_, rfl⟩
  rw [← hm] at hll HL ⊢
  rw [← hnn] at hn HR ⊢
  have HM := Lib.hid hm; have HN := Lib.hid hnn
  have hl3 : m ≤ 9223372036854775807 := by omega
  clear hr hl hat hin hm hnn hlr
  go_enter Try.func62, Try.ntmps62
  go_wp2
  go_loopw [13] (fun i wr => ∃ k : Nat, k ≤ m ∧ i = .int .i64 (k : Int) ∧ Hid (∃ ins, Ct rs k 0 ins ∧ ArrI wr (w.heap.size + 1) 95 ins) ∧ Hid (wr.cell? ⟨w.heap.size, 0, none⟩ = some (.slice ar n capr)) ∧ Hid (Ext w wr)) (fun i wr => m - (intOf i).toNat)
  case atStart =>
    refine ⟨0, Nat.zero_le _, rfl, ⟨_, Ct.start rs, ?_⟩, ?_, ((Ext.refl w).alloc _).alloc _⟩
    · have := heap_alloc_new (w.alloc (.cells #[.slice ar n capr] 57)) (.cells (intC (List.replicate 30 0)).toArray 95)
      rw [World.size_alloc] at this
      exact this
    · exact cell_ext ((Ext.refl _).alloc _) (show (w.alloc (.cells #[.slice ar n capr] 57)).cell? ⟨w.heap.size, 0, none⟩ = some (.slice ar n capr) from World.cell?_alloc_at _ _ _ _ rfl)
  case round =>
    obtain ⟨i, hi, rfl, hA, hC, hE⟩ := hrel
    obtain ⟨wo, rfl⟩ : ∃ wo : World, wo = wr := ⟨_, rfl⟩
    by_cases hlt : i < m
    · obtain ⟨b, off, ak, capk, r, rfl, hx, hck, hrk⟩ := HL.out.at (show i < rs.length by rw [← HM.out]; exact hlt)
      have hck := cell_ext hE.out hck
      obtain ⟨q, hq⟩ : ∃ q, q = r.length := ⟨_, rfl⟩
      rw [← hq] at hck hrk
      have hq5 : q ≤ 5000 := by rw [hq]; exact hrk.1
      have HX := Lib.hid hx; have HQ := Lib.hid hq
      have HRK := Lib.hid (fun (X : World) (h : Ext w X) => hrk.ext h)
      have hka : (0 : Int) ≤ (i : Int) := by omega
      have hkb : (i : Int) < (m : Int) := by omega
      clear hx hq hrk
      go_wp2
      go_loopw [19] (fun j wr => ∃ k : Nat, k ≤ q ∧ j = .int .i64 (k : Int) ∧ Hid (∃ ins, Ct rs i k ins ∧ ArrI wr (w.heap.size + 1) 95 ins) ∧ Hid (wr.cell? ⟨w.heap.size, 0, none⟩ = some (.slice ar n capr)) ∧ Hid (Ext w wr)) (fun j wr => q - (intOf j).toNat)
      case atStart => exact ⟨0, Nat.zero_le _, rfl, hA, hC, hE⟩
      case round =>
        obtain ⟨k, hk, rfl, hA2, hC2, hE2⟩ := hrel
        by_cases hlk : k < q
        · obtain ⟨ins, hct, harr⟩ := hA2.out
          obtain ⟨b2, off2, x, rfl, hxx, hcx⟩ := (HRK.out wr hE2.out).at (show k < r.length by rw [← HQ.out]; exact hlk)
          obtain ⟨x0, x1⟩ := HAT.out i r HX.out k x hxx
          obtain ⟨p, rfl⟩ : ∃ p : Nat, x = (p : Int) := ⟨x.toNat, by omega⟩
          have hp30 : p < 30 := by omega
          have hnx := hct.step HX.out hxx hp30
          have hb := hct.bd p hp30
          have hb0 : 0 ≤ tAt ins p := by rw [hct.is p hp30]; omega
          have hcp := harr.cell (p := p) (by rw [hct.len]; exact hp30)
          have hfp := harr.frozen p
          generalize tAt ins p = y at *
          have hy : y ≤ 25005000 := by omega
          have hpa : (0 : Int) ≤ (p : Int) := by omega
          have hpb : (p : Int) < 30 := by omega
          have ht2 : (p : Int).toNat = p := by omega
          have hka2 : (0 : Int) ≤ (k : Int) := by omega
          have hkb2 : (k : Int) < (q : Int) := by omega
          have HNX := Lib.hid hnx; have HARR := Lib.hid harr
          clear hxx hct hnx harr hb hA2 hlk
          go_wp2
          go_roundw
          case rel => exact ⟨k + 1, by omega, by go_num, Lib.hid ⟨_, HNX.out, HARR.out.set _ _⟩, Lib.hid (far_ hC2.out (by omega)), Lib.hid (hE2.out.set (by omega) _ _)⟩
          case measure => simp [intOf]; omega
        · obtain rfl : k = q := by omega
          go_wp2
          go_roundw
          case rel => exact ⟨i + 1, by omega, by go_num, Lib.hid (by
            obtain ⟨ins, h1, h2⟩ := hA2.out
            exact ⟨ins, Ct.next (r := r) (by rw [← HQ.out]; exact h1) HX.out (by rw [← HQ.out]; exact hq5), h2⟩), hC2, hE2⟩
          case measure => simp [intOf]; omega
    · obtain rfl : i = m := by omega
      obtain ⟨ins, hct, harr⟩ := hA.out
      have hcc := fun (j : Nat) (hj : j < 30) => (show tAt ins j = (inCnt rs j : Int) from Ct.part (by rw [← HM.out]; exact hct) hj)
      have HCC := Lib.hid hcc; have HARR := Lib.hid harr; have HL30 := Lib.hid hct.len
      have cL := hC.out
      clear hcc harr hct hA
      go_wp2
      go_loop [33] (fun j => ∃ k : Nat, k ≤ n ∧ j = .int .i64 (k : Int) ∧ Hid ((List.range k).all (fun j => inCnt rs j == 1) = true)) (fun j => n - (intOf j).toNat)
      case atStart => exact ⟨0, Nat.zero_le _, rfl, rfl⟩
      case round =>
        obtain ⟨k, hk, rfl, hI⟩ := hrel
        by_cases hlk : k < n
        · have hcp := HARR.out.cell (p := k) (by rw [HL30.out]; omega)
          rw [HCC.out k (by omega)] at hcp
          have hpa : (0 : Int) ≤ (k : Int) := by omega
          have hpb : (k : Int) < 30 := by omega
          have hpc : (k : Int) < (n : Int) := by omega
          have ht2 : (k : Int).toNat = k := by omega
          have HIC := Lib.hid (show (List.range (k + 1)).all (fun j => inCnt rs j == 1) = (inCnt rs k == 1) by rw [List.range_succ, List.all_append, hI.out]; simp)
          have HNO := Lib.hid (fun h : inCnt rs k ≠ 1 => partB_no hlk h)
          generalize inCnt rs k = y at *
          by_cases hy : y = 1
          · subst hy
            go_wp2
            go_round
            case rel => exact ⟨k + 1, by omega, by go_num, HIC⟩
            case measure => simp [intOf]; omega
          · have hd : ((y : Int) != 1) = true := by simp; omega
            have HY := Lib.hid hy; clear hy
            go_wp2
            go_ret
            exact ⟨ret_bool (HNO.out HY.out).symm, hE.out⟩
        · obtain rfl : k = n := by omega
          go_wp2
          go_ret
          exact ⟨ret_bool hI.out.symm, hE.out⟩
end Go.Proofs.Ytclcippfodjfeaa
namespace Go.Proofs.Ytclcippfodjfeaa
open Go.RowKit
set_option linter.unusedVariables false
set_option linter.unusedSimpArgs false
theorem boundI_snoc (many : Int) (rs : List (List Int)) {k : Nat} {r : List Int} (h : rs[k]? = some r) : boundI many (rs.take (k + 1)) = boundI many (rs.take k) + min many (r.length : Int) := by
  unfold boundI; rw [take_snoc h, List.map_append, List.sum_append]; simp
theorem boundI_bd {many : Int} (h0 : 0 ≤ many) (h1 : many ≤ 30) : ∀ rs : List (List Int), 0 ≤ boundI many rs ∧ boundI many rs ≤ 30 * (rs.length : Int)
  | [] => by simp [boundI]
  | r :: rs => by
    have ih := boundI_bd h0 h1 rs
    unfold boundI at ih ⊢
    simp only [List.map_cons, List.sum_cons, List.length_cons]
    omega
theorem askE_ok {row : List Int} {many : Int} (h : askE row many = 0) : chkR row = 0 ∧ 0 ≤ many ∧ many ≤ 30 := by
  unfold askE at h
  split at h
  · contradiction
  · rename_i h0
    split at h
    · rename_i h2; exact ⟨by simpa using h0, h2⟩
    · cases h
set_option maxRecDepth 100000 in
set_option maxHeartbeats 1500000 in
theorem checkRuns38 (v vl : Value) (row : List Int) (many : Int) (rs : List (List Int)) (w : World) (hr : Reads w v row) (hl : ReadsL w vl rs) :
    Calls Try.prog 38 #[v, .int .i64 many, vl] w fun e w' => e = .returned (.tuple #[.int .i64 (runsV row many rs).1, .int .i64 (runsV row many rs).2]) ∧ Ext w w' := by
  obtain ⟨hlr, a, cap, rfl⟩ := hr.shape
  obtain ⟨hll, a', cap', rfl⟩ := hl.shape
  have E0 := Lib.hid ((Ext.refl w).alloc (.cells #[.int .i64 many] 3))
  have H48 := Lib.hid (open_many _ (.slice (some ⟨w.heap.size, 0, none⟩) 1 1) row many (w.alloc (.cells #[.int .i64 many] 3)) (hr.ext E0.out) (Reads.new w [many] 3 _ rfl (by simp) _ rfl 1 1 rfl))
  have H58 := Lib.hid (fun (X : World) (h : Ext w X) => every61_58 _ _ row rs X (hr.ext h) (hl.ext h))
  have H59 := Lib.hid (fun (hin : rs.all (listB row.length) = true) (X : World) (h : Ext w X) => every61_59 _ _ row rs X (hr.ext h) (hl.ext h) hin)
  have H62 := Lib.hid (fun (hin : rs.all (listB row.length) = true) (hc : chkR row = 0) (X : World) (h : Ext w X) => parted62 _ _ row rs X (hr.ext h) (hl.ext h) (chkR_ok.1 hc).1 hin)
  have hv1 : askE row many ≠ 0 → runsV row many rs = (0, askE row many) := fun h => by unfold runsV; rw [if_pos h]
  have hv2 : askE row many = 0 → 30 < rs.length → runsV row many rs = (0, 6) := fun h h2 => by unfold runsV; rw [if_neg (by simp [h]), if_pos h2]
  have hv3 : askE row many = 0 → ¬ 30 < rs.length → rs.all (listB row.length) = false → runsV row many rs = (0, 3) := fun h h2 h3 => by
    unfold runsV; rw [if_neg (by simp [h]), if_neg h2, if_pos h3]
  have hv4 : askE row many = 0 → ¬ 30 < rs.length → rs.all (listB row.length) = true → rs.all (decB row) = false → runsV row many rs = (0, 16) := fun h h2 h3 h4 => by
    unfold runsV; rw [if_neg (by simp [h]), if_neg h2, if_neg (by rw [h3]; simp), if_pos h4]
  have hv5 : askE row many = 0 → ¬ 30 < rs.length → rs.all (listB row.length) = true → rs.all (decB row) = true → partB row.length rs = false → runsV row many rs = (0, 14) := fun h h2 h3 h4 h5 => by
    unfold runsV; rw [if_neg (by simp [h]), if_neg h2, if_neg (by rw [h3]; simp), if_neg (by rw [h4]; simp), if_pos h5]
  have hv6 : askE row many = 0 → ¬ 30 < rs.length → rs.all (listB row.length) = true → rs.all (decB row) = true → partB row.length rs = true → runsV row many rs = (boundI many rs, 0) := fun h h2 h3 h4 h5 => by
    unfold runsV; rw [if_neg (by simp [h]), if_neg h2, if_neg (by rw [h3]; simp), if_neg (by rw [h4]; simp), if_neg (by rw [h5]; simp)]
  have V1 := Lib.hid hv1; have V2 := Lib.hid hv2; have V3 := Lib.hid hv3; have V4 := Lib.hid hv4; have V5 := Lib.hid hv5; have V6 := Lib.hid hv6
  have HL := Lib.hid hl
  clear hv1 hv2 hv3 hv4 hv5 hv6 hr hl
  obtain ⟨r1, hr1⟩ : ∃ r1, r1 = (runsV row many rs).1 := ⟨_, rfl⟩
  obtain ⟨r2, hr2⟩ : ∃ r2, r2 = (runsV row many rs).2 := ⟨_, rfl⟩
  rw [← hr1, ← hr2]
  have HR1 := Lib.hid hr1; have HR2 := Lib.hid hr2
  clear hr1 hr2
  obtain ⟨n, hn⟩ : ∃ n, n = row.length := ⟨_, rfl⟩
  rw [← hn] at H48 H58 H59 H62 V3 V4 V5 V6 ⊢
  obtain ⟨m, hm⟩ : ∃ m, m = rs.length := ⟨_, rfl⟩
  rw [← hm] at H58 H59 H62 V2 V3 V4 V5 V6 HL ⊢
  have HN := Lib.hid hn; have HM := Lib.hid hm
  clear hn hm
  obtain ⟨c, hc⟩ : ∃ c, c = askE row many := ⟨_, rfl⟩
  by_cases h0 : c = 0
  · subst h0
    have H48 := Lib.hid (by have h := H48.out; rw [← hc, if_pos rfl] at h; exact h)
    obtain ⟨hc0, hm0, hm1⟩ := askE_ok hc.symm
    have HC := Lib.hid hc.symm; have HC0 := Lib.hid hc0; clear hc hc0
    by_cases h30 : 30 < m
    · have hd : (30 : Int) < (m : Int) := by omega
      go_enter Try.func38, Try.ntmps38
      go_wp2_with fail
      refine H48.out.mono ?_
      rintro e w1 ⟨rfl, hb⟩
      have c1 : (w1.alloc (.cells #[.slice a n cap] 57)).cell? ⟨w1.heap.size, 0, none⟩ = some (.slice a n cap) := World.cell?_alloc_at _ _ _ _ rfl
      have C1 := Lib.hid c1; clear c1
      have E1 := Lib.hid ((E0.out.trans hb).alloc (.cells #[.slice a n cap] 57)); clear hb
      go_wp2
      go_ret2
      rw [HR1.out, HR2.out, V2.out HC.out h30]
      exact ⟨rfl, E1.out⟩
    · have hd : ¬ (30 : Int) < (m : Int) := by omega
      have hd2 : decide ((30 : Int) < (m : Int)) = false := decide_eq_false hd
      cases h1 : rs.all (listB n)
      · have H58 := Lib.hid (fun (X : World) (h : Ext w X) => by have h2 := H58.out X h; rw [h1] at h2; exact h2)
        have H1 := Lib.hid h1; clear h1
        go_enter Try.func38, Try.ntmps38
        go_wp2_with fail
        refine H48.out.mono ?_
        rintro e w1 ⟨rfl, hb⟩
        have c1 : (w1.alloc (.cells #[.slice a n cap] 57)).cell? ⟨w1.heap.size, 0, none⟩ = some (.slice a n cap) := World.cell?_alloc_at _ _ _ _ rfl
        have C1 := Lib.hid c1; clear c1
        have E1 := Lib.hid ((E0.out.trans hb).alloc (.cells #[.slice a n cap] 57)); clear hb
        have c1 := C1.out
        go_wp2_with fail
        refine (H58.out _ E1.out).mono ?_
        rintro e w2 ⟨rfl, hb⟩
        have C2 := Lib.hid (cell_ext hb C1.out)
        have E2 := Lib.hid (E1.out.trans hb); clear hb c1
        go_wp2
        go_ret2
        rw [HR1.out, HR2.out, V3.out HC.out h30 H1.out]
        exact ⟨rfl, E2.out⟩
      · have H58 := Lib.hid (fun (X : World) (h : Ext w X) => by have h2 := H58.out X h; rw [h1] at h2; exact h2)
        have H59 := Lib.hid (H59.out h1)
        have H62 := Lib.hid (H62.out h1 HC0.out)
        have H1 := Lib.hid h1; clear h1
        cases h2 : rs.all (decB row)
        · have H59 := Lib.hid (fun (X : World) (h : Ext w X) => by have h3 := H59.out X h; rw [h2] at h3; exact h3)
          have H2 := Lib.hid h2; clear h2
          go_enter Try.func38, Try.ntmps38
          go_wp2_with fail
          refine H48.out.mono ?_
          rintro e w1 ⟨rfl, hb⟩
          have c1 : (w1.alloc (.cells #[.slice a n cap] 57)).cell? ⟨w1.heap.size, 0, none⟩ = some (.slice a n cap) := World.cell?_alloc_at _ _ _ _ rfl
          have C1 := Lib.hid c1; clear c1
          have E1 := Lib.hid ((E0.out.trans hb).alloc (.cells #[.slice a n cap] 57)); clear hb
          have c1 := C1.out
          go_wp2_with fail
          refine (H58.out _ E1.out).mono ?_
          rintro e w2 ⟨rfl, hb⟩
          have C2 := Lib.hid (cell_ext hb C1.out)
          have E2 := Lib.hid (E1.out.trans hb); clear hb c1
          have c2 := C2.out
          go_wp2_with fail
          refine (H59.out _ E2.out).mono ?_
          rintro e w3 ⟨rfl, hb⟩
          have C3 := Lib.hid (cell_ext hb C2.out)
          have E3 := Lib.hid (E2.out.trans hb); clear hb c2
          go_wp2
          go_ret2
          rw [HR1.out, HR2.out, V4.out HC.out h30 H1.out H2.out]
          exact ⟨rfl, E3.out⟩
        · have H59 := Lib.hid (fun (X : World) (h : Ext w X) => by have h3 := H59.out X h; rw [h2] at h3; exact h3)
          have H2 := Lib.hid h2; clear h2
          cases h3 : partB n rs
          · have H62 := Lib.hid (fun (X : World) (h : Ext w X) => by have h4 := H62.out X h; rw [h3] at h4; exact h4)
            have H3 := Lib.hid h3; clear h3
            go_enter Try.func38, Try.ntmps38
            go_wp2_with fail
            refine H48.out.mono ?_
            rintro e w1 ⟨rfl, hb⟩
            have c1 : (w1.alloc (.cells #[.slice a n cap] 57)).cell? ⟨w1.heap.size, 0, none⟩ = some (.slice a n cap) := World.cell?_alloc_at _ _ _ _ rfl
            have C1 := Lib.hid c1; clear c1
            have E1 := Lib.hid ((E0.out.trans hb).alloc (.cells #[.slice a n cap] 57)); clear hb
            have c1 := C1.out
            go_wp2_with fail
            refine (H58.out _ E1.out).mono ?_
            rintro e w2 ⟨rfl, hb⟩
            have C2 := Lib.hid (cell_ext hb C1.out)
            have E2 := Lib.hid (E1.out.trans hb); clear hb c1
            have c2 := C2.out
            go_wp2_with fail
            refine (H59.out _ E2.out).mono ?_
            rintro e w3 ⟨rfl, hb⟩
            have C3 := Lib.hid (cell_ext hb C2.out)
            have E3 := Lib.hid (E2.out.trans hb); clear hb c2
            have c3 := C3.out
            go_wp2_with fail
            refine (H62.out _ E3.out).mono ?_
            rintro e w4 ⟨rfl, hb⟩
            have E4 := Lib.hid (E3.out.trans hb); clear hb c3
            go_wp2
            go_ret2
            rw [HR1.out, HR2.out, V5.out HC.out h30 H1.out H2.out H3.out]
            exact ⟨rfl, E4.out⟩
          · have H62 := Lib.hid (fun (X : World) (h : Ext w X) => by have h4 := H62.out X h; rw [h3] at h4; exact h4)
            have H3 := Lib.hid h3; clear h3
            go_enter Try.func38, Try.ntmps38
            go_wp2_with fail
            refine H48.out.mono ?_
            rintro e w1 ⟨rfl, hb⟩
            have c1 : (w1.alloc (.cells #[.slice a n cap] 57)).cell? ⟨w1.heap.size, 0, none⟩ = some (.slice a n cap) := World.cell?_alloc_at _ _ _ _ rfl
            have C1 := Lib.hid c1; clear c1
            have E1 := Lib.hid ((E0.out.trans hb).alloc (.cells #[.slice a n cap] 57)); clear hb
            have c1 := C1.out
            go_wp2_with fail
            refine (H58.out _ E1.out).mono ?_
            rintro e w2 ⟨rfl, hb⟩
            have C2 := Lib.hid (cell_ext hb C1.out)
            have E2 := Lib.hid (E1.out.trans hb); clear hb c1
            have c2 := C2.out
            go_wp2_with fail
            refine (H59.out _ E2.out).mono ?_
            rintro e w3 ⟨rfl, hb⟩
            have C3 := Lib.hid (cell_ext hb C2.out)
            have E3 := Lib.hid (E2.out.trans hb); clear hb c2
            have c3 := C3.out
            go_wp2_with fail
            refine (H62.out _ E3.out).mono ?_
            rintro e w4 ⟨rfl, hb⟩
            have E4 := Lib.hid (E3.out.trans hb); clear hb c3
            have hl3 : m ≤ 30 := by omega
            go_wp2
            go_loop [10, 46] (fun b i => ∃ k : Nat, k ≤ m ∧ i = .int .i64 (k : Int) ∧ b = .int .i64 (boundI many (rs.take k))) (fun b i => m - (intOf i).toNat)
            case atStart => exact ⟨0, Nat.zero_le _, rfl, rfl⟩
            case round =>
              obtain ⟨k, hk, rfl, rfl⟩ := hrel
              by_cases hlt : k < m
              · obtain ⟨b, off, ak, capk, r, rfl, hx, hck, hrk⟩ := (HL.out.ext E4.out).at (show k < rs.length by rw [← HM.out]; exact hlt)
                have hq5 := hrk.1
                have hs := boundI_snoc many rs hx
                have hbd := boundI_bd hm0 hm1 (rs.take k)
                have htk : (rs.take k).length ≤ k := by simp; omega
                generalize boundI many (rs.take k) = B at *
                obtain ⟨q, hq⟩ : ∃ q, q = r.length := ⟨_, rfl⟩
                rw [← hq] at hs hck
                have hq5 : q ≤ 5000 := by omega
                have hb1 := hbd.1
                have hb2 : B ≤ 900 := by omega
                have HS := Lib.hid hs
                have hka : (0 : Int) ≤ (k : Int) := by omega
                have hkb : (k : Int) < (m : Int) := by omega
                clear hx hrk hq hs hbd htk
                rcases Int.lt_trichotomy many (q : Int) with h | h | h
                all_goals
                  go_wp2
                  go_round
                  case rel => exact ⟨k + 1, by omega, by go_num, by rw [HS.out]; first | (rw [show min many (q : Int) = many by omega]; done) | (rw [show min many (q : Int) = (q : Int) by omega]; done) | (rw [show min many (q : Int) = many by omega]; rfl) | (rw [show min many (q : Int) = (q : Int) by omega]; rfl)⟩
                  case measure => simp [intOf]; omega
              · obtain rfl : k = m := by omega
                go_wp2
                go_ret2
                rw [HR1.out, HR2.out, V6.out HC.out h30 H1.out H2.out H3.out, HM.out, List.take_of_length_le (Nat.le_refl _)]
                exact ⟨rfl, E4.out⟩
  · have hb : (c != 0) = true := by simpa using h0
    have H48 := Lib.hid (by have h := H48.out; rw [← hc, if_neg h0] at h; exact h)
    have HC := Lib.hid hc; clear hc
    have H0 := Lib.hid h0; clear h0
    go_enter Try.func38, Try.ntmps38
    go_wp2_with fail
    refine H48.out.mono ?_
    rintro e w1 ⟨rfl, hb1⟩
    have E1 := Lib.hid ((E0.out.trans hb1).alloc (.cells #[.slice none 0 0] 57)); clear hb1
    go_wp2
    go_ret2
    rw [HR1.out, HR2.out, V1.out (by rw [← HC.out]; exact H0.out), HC.out]
    exact ⟨rfl, E1.out⟩
end Go.Proofs.Ytclcippfodjfeaa
