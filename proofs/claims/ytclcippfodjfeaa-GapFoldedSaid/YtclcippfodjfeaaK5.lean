/- Runs, by its contract. -/
import Derived.Test.YtclcippfodjfeaaK4
import Derived.Test.YtclcippfodjfeaaN8
import Derived.Test.YtclcippfodjfeaaC4
namespace Go.Proofs.Ytclcippfodjfeaa
open Go.RowKit Go.Shelf
set_option linter.unusedVariables false
set_option linter.unusedSimpArgs false
theorem toN_natI (l : List Nat) : toN (natI l) = l := by
  unfold toN natI
  rw [List.map_map]
  conv => rhs; rw [← List.map_id l]
  exact List.map_congr_left fun a _ => by simp
theorem natI_nn (l : List Nat) : ∀ x ∈ natI l, (0 : Int) ≤ x := fun x hx => by
  obtain ⟨n, -, rfl⟩ := List.mem_map.1 hx
  omega
theorem send_none {row : List Int} {m : Nat} {F F' la la' : List Lk} (h : sendF row m F la = some ([], F', la')) : F' = F := by
  cases m with
  | zero => unfold sendF at h; cases h; rfl
  | succ m =>
    unfold sendF at h
    cases hm : meas row F la with
    | none => rw [hm] at h; cases h
    | some st =>
      rw [hm] at h
      simp only [Option.bind_some] at h
      split at h
      · cases h; rfl
      · cases hp : pathF 4000 st.2 1 with
        | none => rw [hp] at h; cases h
        | some ps =>
          rw [hp] at h
          simp only [Option.bind_some] at h
          cases hs : sendF row m (ps.foldl tog F) st.2 with
          | none => rw [hs] at h; cases h
          | some x => rw [hs] at h; cases h
theorem runs_right {row : List Int} (hn : row.length ≤ 30) {m : Nat} (hm : m ≤ 30) {more : List Int} {F la : List Lk} {st : St} {p : Nat → Int} (hs : sendF row m [] last0 = some (more, F, la)) (hd : Done (stepsL row F) p st) :
    (runsM row.length (fa st.1)).length ≤ 30 ∧ (chkR row = 0 → runsV row (m : Int) ((runsM row.length (fa st.1)).map natI) = (mostV row (m : Int), 0)) := by
  obtain ⟨h1, hF, htk, -⟩ := sent_is hn hs
  have hfe := fea_done hF hd
  have h01 := mark_01 hfe
  have hlen : more.length = min m (tab row).length := by rw [h1]; simp [shapeI, shapeL]
  have hor : more.length = m ∨ (fa st.1 1 = fa st.1 0 ∧ more.length ≤ m) := by
    by_cases h2 : more.length = m
    · exact .inl h2
    · right
      refine ⟨?_, by omega⟩
      by_cases he : fa st.1 1 = fa st.1 0
      · exact he
      · obtain ⟨ps, -, h3, -, h5⟩ := flow_next hF hd he
        have h6 := tk_le h3
        have h7 : sumk m (tab row) = row.length := by rw [sumk_all m (tab row) (by omega), tab_len]
        omega
  have hfew := runs_few hF hd (by
    cases hml : more with
    | nil => right; rw [hml] at hs; exact send_none hs
    | cons x l => left; simp)
  refine ⟨by omega, fun hc => ?_⟩
  obtain ⟨h8, h9⟩ := flow_most hF hfe hor
  have hmap : ((runsM row.length (fa st.1)).map natI).map toN = runsM row.length (fa st.1) := by
    rw [List.map_map]
    conv => rhs; rw [← List.map_id (runsM row.length (fa st.1))]
    exact List.map_congr_left fun a _ => toN_natI a
  have := runsV_of (row := row) (many := m) (runs := (runsM row.length (fa st.1)).map natI) hc hm (by simp; omega) (fun r hr => by
    obtain ⟨q, hq, rfl⟩ := List.mem_map.1 hr
    rw [toN_natI]
    exact ⟨runs_run hfe q hq, natI_nn q⟩) (by rw [hmap]; exact runs_part hfe)
  rw [this, hmap, h9, mostV_sumk, h8]
theorem OwnH.readsL {B : Nat} {w : World} {v : Value} {hs : List Value} {L : List (List Nat)} (h : OwnH B w v L.length hs (fun i => L.getD i [])) (hn : L.length ≤ 5000) (hr : ∀ l ∈ L, l.length ≤ 5000) : ReadsL w v (L.map natI) := by
  have hlen := h.len
  refine ⟨by simpa using hn, ?_⟩
  rw [List.length_map]
  have hat : ∀ i, i < L.length → ∃ u, hs[i]? = some u ∧ Reads w u ((L.map natI).getD i []) := fun i hi => by
    obtain ⟨u, hu⟩ : ∃ u, hs[i]? = some u := ⟨hs[i]'(by omega), List.getElem?_eq_getElem _⟩
    refine ⟨u, hu, ?_⟩
    have h1 := h.row i u hu
    have e1 : L.getD i [] = L[i] := by rw [List.getD_eq_getElem?_getD, List.getElem?_eq_getElem hi]; rfl
    have e2 : (L.map natI).getD i [] = natI L[i] := by rw [List.getD_eq_getElem?_getD, List.getElem?_map, List.getElem?_eq_getElem hi]; rfl
    try dsimp only at h1
    rw [e1] at h1
    rw [e2]
    exact h1.reads (by rw [natI_len]; exact hr _ (List.getElem_mem hi))
  have hcell := fun (g : Nat) (e : v.ownBlock = some g) (i : Nat) (hi : i < L.length) => hat i hi
  rcases h.own.2 with ⟨rfl, h0⟩ | ⟨g, cap, cur, rfl, hb, hh, hc1, hc2, hsz, ht⟩
  · have : L = [] := List.length_eq_zero_iff.1 h0
    subst this
    exact ⟨none, 0, rfl, ⟨Nat.le_refl _, by omega⟩, .inl rfl⟩
  · refine ⟨_, cap, rfl, ⟨hc1, by unfold maxLen at hc2; omega⟩, .inr ⟨g, 0, rfl, fun i hi => ?_⟩⟩
    obtain ⟨u, h1, h2⟩ := hat i hi
    refine ⟨u, ?_, h2⟩
    rw [Nat.zero_add, World.ownsRow.cellAt h.own i (by omega)]
    exact h1
theorem runsM_len {n : Nat} {p : Nat → Int} (hn : n ≤ 30) : ∀ r ∈ runsM n p, r.length ≤ 5000 := fun r hr => by
  unfold runsM at hr
  rcases List.mem_append.1 hr with h | h
  · obtain ⟨k, -, rfl⟩ := List.mem_map.1 h
    unfold runAt
    have := List.length_filter_le (fun i => rises p i && (p (bef i) == p 0 + (k : Int))) (List.range n)
    simp only [List.length_range] at this
    omega
  · obtain ⟨k, -, rfl⟩ := List.mem_map.1 h
    simp
/-- A list of lists, or an error. -/
def ListsRef (w : World) (c : Int) (xs : List (List Int)) (e : Ending) (w' : World) : Prop :=
  (c ≠ 0 ∧ e = .returned (.tuple #[.slice none 0 0, .int .i64 c]) ∨ c = 0 ∧ ∃ u, e = .returned (.tuple #[u, .int .i64 0]) ∧ ReadsL w' u xs) ∧ Ext w w'
attribute [local go_sem] Oper.semAt_some
set_option maxRecDepth 100000 in
set_option maxHeartbeats 1000000 in
theorem runs40 (v : Value) (row : List Int) (many : Int) (w : World) (hr : Reads w v row) :
    Calls Try.prog 40 #[v, .int .i64 many] w fun e w' => ∃ t, (askE row many = 0 → t.length ≤ 30 ∧ runsV row many t = (mostV row many, 0)) ∧ ListsRef w (askE row many) t e w' := by
  obtain ⟨hlr, a, cap, rfl⟩ := hr.shape
  have E0 := Lib.hid ((Ext.refl w).alloc (.cells #[.int .i64 many] 3))
  have H48 := Lib.hid (open_many _ (.slice (some ⟨w.heap.size, 0, none⟩) 1 1) row many (w.alloc (.cells #[.int .i64 many] 3)) (hr.ext E0.out) (Reads.new w [many] 3 _ rfl (by simp) _ rfl 1 1 rfl))
  have HR := Lib.hid hr
  clear hr hlr
  by_cases hc : askE row many = 0
  · obtain ⟨hck, hn30, m, rfl, hm⟩ := ask_ok hc
    have H48 := Lib.hid (by have h := H48.out; rw [if_pos hc, hc] at h; exact h)
    rw [hc]
    have HN30 := Lib.hid hn30; have HCK := Lib.hid hck
    obtain ⟨n, hn⟩ : ∃ n, n = row.length := ⟨_, rfl⟩
    have HNL := Lib.hid hn
    rw [← hn] at H48 HR ⊢
    clear hc hck hn hn30
    go_enter Try.func40, Try.ntmps40
    go_wp2_with fail
    refine H48.out.mono ?_
    rintro e w1 ⟨rfl, hb⟩
    have E1 := Lib.hid ((E0.out.trans hb).alloc (.cells #[.slice a n cap] 57)); clear hb
    go_wp2_with fail
    refine (newNet52 _ a n cap row (HR.out.ext E1.out) (by rw [HNL.out]; exact HN30.out)).mono ?_
    rintro e w3 ⟨bn, mf, rfl, hN⟩
    obtain ⟨q1, q2, q3⟩ := flow_start HN30.out
    have C53 := Lib.hid (send53 _ w3 bn a n cap row mf 0 [] zer62 last0 0 m _ hN q1 q2 q3 LB.zero hm (by omega))
    clear hN q1 q2 q3
    go_wp2_with fail
    refine C53.out.mono ?_
    rintro e w4 ⟨more, F, la, far, vm, nf, hs, rfl, hO, hml, hN4, -, -⟩
    obtain ⟨-, hF, htk, p, hp, hB, -⟩ := sent_is HN30.out hs
    obtain ⟨st, hms, hdn⟩ := meas_ok (F := F) HN30.out hN4.net.l2 hp hB
    have h01 := mark_01 (fea_done hF hdn)
    have hz := hdn.z
    have hb1 : fa st.1 1 ≤ 31 := by
      have h1 := hdn.bd 1; have h2 := hB 1
      rcases h1 with h1 | h1 <;> omega
    obtain ⟨r1, r2⟩ := runs_right HN30.out hm hs hdn
    have HR2 := Lib.hid (r2 HCK.out)
    have E4 := Lib.hid (E1.out.trans hN4.base)
    have hbn := hN4.bn0
    have C63 := Lib.hid (runs63 _ w4 bn a n cap row mf nf F far la p st hN4 hp hB hms ⟨by omega, by omega, by omega, by omega⟩)
    have HE1 := E1.out.size
    rw [← HNL.out] at r1 HR2
    have HR1 := Lib.hid r1
    have HL := Lib.hid (runsM_len (n := n) (p := fa st.1) (by rw [HNL.out]; exact HN30.out))
    have hN4b := Lib.hid hN4.base
    clear hs hO hN4 C53 hF htk hp hB hms hdn h01 hz hb1 r1 r2
    go_wp2_with fail
    refine C63.out.mono ?_
    rintro e w5 ⟨u, hs, rfl, hO, hK⟩
    have HRD := Lib.hid (hO.readsL (by have := HR1.out; omega) HL.out)
    have E5 := Lib.hid (E1.out.trans (Below.keep hN4b.out hK (fun r hr => by rw [List.mem_singleton.1 hr]; exact hbn)))
    obtain ⟨au, capu, rfl⟩ := hO.shape
    obtain ⟨lu, hlu⟩ : ∃ lu, lu = (runsM n (fa st.1)).length := ⟨_, rfl⟩
    rw [← hlu] at HRD ⊢
    clear hO hK C63 hlu
    go_wp2
    go_ret2
    exact ⟨(runsM n (fa st.1)).map natI, fun _ => ⟨by rw [List.length_map]; exact HR1.out, HR2.out⟩, .inr ⟨rfl, _, rfl, HRD.out⟩, E5.out⟩
  · have H48 := Lib.hid (by have h := H48.out; rw [if_neg hc] at h; exact h)
    have hd : (askE row many != 0) = true := by simpa using hc
    have HC := Lib.hid hc
    clear hc
    generalize askE row many = c at *
    go_enter Try.func40, Try.ntmps40
    go_wp2_with fail
    refine H48.out.mono ?_
    rintro e w1 ⟨rfl, hb⟩
    have E1 := Lib.hid ((E0.out.trans hb).alloc (.cells #[.slice none 0 0] 57)); clear hb
    go_wp2
    go_ret2
    exact ⟨[], fun h => absurd h HC.out, .inl ⟨HC.out, rfl⟩, E1.out⟩
end Go.Proofs.Ytclcippfodjfeaa
