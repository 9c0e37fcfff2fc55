/- Chains from another corner on, the other way round, too: they enclose the same. -/
import Derived.Test.YtppjnpempgpkaaaK8
namespace Go.Proofs.Ytppjnpempgpkaaa
set_option linter.unusedVariables false
set_option linter.unusedSimpArgs false
theorem sts_app : ∀ (p : Pt) (a b : List Nat), sts p (a ++ b) = sts p a ++ sts (fin p a) b
  | p, [], b => rfl
  | p, k :: a, b => by show (p, k) :: sts (mv p k) (a ++ b) = _; rw [sts_app]; rfl
theorem fin_app : ∀ (p : Pt) (a b : List Nat), fin p (a ++ b) = fin (fin p a) b
  | p, [], b => rfl
  | p, k :: a, b => by show fin (mv p k) (a ++ b) = _; rw [fin_app]; rfl
def rotL (fr : Nat) (ks : List Nat) : List Nat := ks.drop fr ++ ks.take fr
theorem rot_fin {p : Pt} {ks : List Nat} (fr : Nat) (h : fin p ks = p) : fin (fin p (ks.take fr)) (rotL fr ks) = fin p (ks.take fr) := by
  have h2 : fin (fin p (ks.take fr)) (ks.drop fr) = p := by rw [← fin_app, List.take_append_drop, h]
  unfold rotL
  rw [fin_app, h2]
theorem rot_sts {p : Pt} {ks : List Nat} (fr : Nat) (h : fin p ks = p) : (sts (fin p (ks.take fr)) (rotL fr ks)).Perm (sts p ks) := by
  have h2 : fin (fin p (ks.take fr)) (ks.drop fr) = p := by rw [← fin_app, List.take_append_drop, h]
  unfold rotL
  rw [sts_app, h2]
  conv => rhs; rw [← List.take_append_drop fr ks, sts_app]
  exact List.perm_append_comm
def revL (ks : List Nat) : List Nat := (ks.map opp).reverse
def rvS (s : Stk) : Stk := (mv s.1 s.2, opp s.2)
theorem rev_sts : ∀ (p : Pt) (ks : List Nat), (∀ k ∈ ks, k < 4) → fin (fin p ks) (revL ks) = p ∧ sts (fin p ks) (revL ks) = ((sts p ks).map rvS).reverse
  | p, [], _ => ⟨rfl, rfl⟩
  | p, k :: ks, h => by
    obtain ⟨h1, h2⟩ := rev_sts (mv p k) ks (fun j hj => h j (by simp [hj]))
    have e : revL (k :: ks) = revL ks ++ [opp k] := by simp [revL]
    have hf : fin p (k :: ks) = fin (mv p k) ks := rfl
    rw [e, hf, fin_app, sts_app, h1, h2]
    refine ⟨mv_mv (h k (by simp)), ?_⟩
    have e2 : sts p (k :: ks) = (p, k) :: sts (mv p k) ks := rfl
    rw [e2, List.map_cons, List.reverse_cons]
    rfl
theorem sm_perm {f : Stk → Int} {l m : List Stk} (h : l.Perm m) : sm f l = sm f m := by
  induction h with
  | nil => rfl
  | cons s _ ih => rw [sm_cons, sm_cons, ih]
  | swap a b l => simp only [sm_cons]; omega
  | trans _ _ h1 h2 => rw [h1, h2]
theorem sm_map (f : Stk → Int) (g : Stk → Stk) : ∀ l : List Stk, sm f (l.map g) = sm (fun s => f (g s)) l
  | [] => rfl
  | s :: l => by rw [List.map_cons, sm_cons, sm_cons, sm_map f g l]
theorem sm_neg (f : Stk → Int) : ∀ l : List Stk, sm (fun s => -f s) l = -sm f l
  | [] => rfl
  | s :: l => by rw [sm_cons, sm_cons, sm_neg f l]; omega
theorem wv_rev (x y : Int) {s : Stk} (h : s.2 < 4) : wv x y (rvS s) = -wv x y s := by
  obtain ⟨⟨X, Y⟩, j⟩ := s
  rcases four h with e | e | e | e <;> dsimp only at e <;> subst e <;> simp [wv, rvS, mv, mvx, mvy, opp] <;> (repeat' split) <;> omega
theorem Wd_rev {l : List Stk} (h : ∀ s ∈ l, s.2 < 4) (x y : Int) : Wd (l.map rvS).reverse x y = -Wd l x y := by
  unfold Wd
  rw [sm_perm (List.reverse_perm _), sm_map, sm_congr fun s hs => wv_rev x y (h s hs), sm_neg]
theorem area_rev {l : List Stk} (h : ∀ s ∈ l, s.2 < 4) : area (l.map rvS).reverse = -area l := by
  unfold area
  rw [sm_perm (List.reverse_perm _), sm_map, ← sm_neg]
  refine sm_congr fun s hs => ?_
  obtain ⟨⟨X, Y⟩, j⟩ := s
  have := h _ hs
  rcases four this with e | e | e | e <;> dsimp only at e <;> subst e <;> simp [rvS, mv, mvx, mvy, opp]
theorem encl_congr {l m : List Stk} (h : ∀ x y, Wd l x y = 0 ↔ Wd m x y = 0) : encl l = encl m := by
  unfold encl
  refine List.filter_congr fun c _ => ?_
  unfold wat
  congr 1
  exact decide_eq_decide.2 (h _ _)
theorem pts_tail (p : Pt) (ks : List Nat) : pts p ks = p :: (pts p ks).tail := by cases ks <;> rfl
theorem tail_mv : ∀ (p : Pt) (ks : List Nat), (pts p ks).tail = (sts p ks).map fun s => mv s.1 s.2
  | p, [] => rfl
  | p, k :: ks => by
    show pts (mv p k) ks = mv p k :: (sts (mv p k) ks).map fun s => mv s.1 s.2
    rw [← tail_mv, ← pts_tail]
/-- The chain from a corner on, and the other way round. -/
def arL (back : Bool) (fr : Nat) (ks : List Nat) : List Nat := if back then revL (rotL fr ks) else rotL fr ks
theorem ar_plain {p : Pt} {ks : List Nat} (fr : Nat) (back : Bool) (hfr : fr < ks.length) (h4 : ∀ k ∈ ks, k < 4) (hon : ∀ q ∈ pts p ks, onB q) (hc : clsd p ks = true) :
    (arL back fr ks).length = ks.length ∧ (∀ k ∈ arL back fr ks, k < 4) ∧ (∀ q ∈ pts (fin p (ks.take fr)) (arL back fr ks), onB q) ∧ clsd (fin p (ks.take fr)) (arL back fr ks) = true ∧
    encl (sts (fin p (ks.take fr)) (arL back fr ks)) = encl (sts p ks) ∧ area (sts (fin p (ks.take fr)) (arL back fr ks)) = if back then -area (sts p ks) else area (sts p ks) := by
  obtain ⟨hf, hn⟩ := clsd_iff.1 hc
  have hrl : (rotL fr ks).length = ks.length := by
    unfold rotL
    rw [List.length_append, List.length_drop, List.length_take]
    omega
  have hr4 : ∀ k ∈ rotL fr ks, k < 4 := fun k hk => by
    unfold rotL at hk
    rcases List.mem_append.1 hk with hk | hk
    · exact h4 k (List.mem_of_mem_drop hk)
    · exact h4 k (List.mem_of_mem_take hk)
  have hp := rot_sts fr hf
  have hcl := rot_fin fr hf
  have hq : onB (fin p (ks.take fr)) := hon _ (List.mem_of_getElem? (fin_take_at p ks fr (by omega)))
  generalize fin p (ks.take fr) = q at *
  generalize hrs : rotL fr ks = rs at *
  have hl4 : ∀ s ∈ sts q rs, s.2 < 4 := fun s hs => hr4 _ (sts_mem hs)
  have hne : rs ≠ [] := fun e => by rw [e] at hrl; simp at hrl; omega
  have hnr : ((sts q rs).map Prod.fst).Nodup := (hp.map Prod.fst).nodup_iff.2 hn
  have hon2 : ∀ z ∈ pts q rs, onB z := fun z hz => by
    rw [pts_eq, hcl] at hz
    rcases List.mem_append.1 hz with hz | hz
    · obtain ⟨s, hs, rfl⟩ := List.mem_map.1 hz
      exact hon _ (by rw [pts_eq]; exact List.mem_append_left _ (List.mem_map.2 ⟨s, hp.mem_iff.1 hs, rfl⟩))
    · rw [List.mem_singleton] at hz; rw [hz]; exact hq
  have hc2 : clsd q rs = true := clsd_iff.2 ⟨hcl, hnr⟩
  have hW : ∀ x y, Wd (sts q rs) x y = Wd (sts p ks) x y := fun x y => sm_perm hp
  have hA : area (sts q rs) = area (sts p ks) := sm_perm hp
  cases back with
  | false =>
    have e : arL false fr ks = rs := hrs
    rw [e]
    exact ⟨hrl, hr4, hon2, hc2, encl_congr fun x y => by rw [hW], hA⟩
  | true =>
    have e : arL true fr ks = revL rs := by rw [← hrs]; rfl
    obtain ⟨h5, h6⟩ := rev_sts q rs hr4
    rw [hcl] at h5 h6
    have h7 : (((sts q rs).map rvS).reverse.map Prod.fst) = (pts q rs).tail.reverse := by
      rw [tail_mv, List.map_reverse, List.map_map]; rfl
    rw [e]
    refine ⟨by unfold revL; rw [List.length_reverse, List.length_map, hrl], fun k hk => ?_, fun z hz => ?_, clsd_iff.2 ⟨h5, ?_⟩, ?_, ?_⟩
    · unfold revL at hk
      obtain ⟨j, hj, rfl⟩ := List.mem_map.1 (List.mem_reverse.1 hk)
      unfold opp; omega
    · rw [pts_eq, h6, h7, h5] at hz
      rcases List.mem_append.1 hz with hz | hz
      · exact hon2 z (List.mem_of_mem_tail (List.mem_reverse.1 hz))
      · rw [List.mem_singleton] at hz; rw [hz]; exact hq
    · rw [h6, h7]
      refine (List.reverse_perm _).nodup_iff.2 ?_
      have := clsd_later (p := q) hne
      rw [hc2] at this
      have := this.symm
      rw [Bool.and_eq_true, decide_eq_true_eq] at this
      exact this.1
    · rw [h6]
      exact encl_congr fun x y => by rw [Wd_rev hl4, hW]; omega
    · rw [h6, area_rev hl4, hA]; rfl
/-- The letter for the other way. -/
def oppU (b : UInt8) : UInt8 := if b = 78 then 83 else if b = 87 then 69 else if b = 83 then 78 else 87
theorem oppU_ok : ((List.range 256).all fun n => !decide (dirU (UInt8.ofNat n) < 4) || decide (dirU (oppU (UInt8.ofNat n)) = opp (dirU (UInt8.ofNat n)))) = true := by decide +kernel
theorem oppU_dir (b : UInt8) (h : dirU b < 4) : dirU (oppU b) = opp (dirU b) := by
  have h1 := List.all_eq_true.1 oppU_ok b.toNat (List.mem_range.2 (by have := b.toNat_lt; omega))
  rw [UInt8.ofNat_toNat, decide_eq_true h] at h1
  simpa using h1
def rotS (s : ByteArray) (fr : Nat) : ByteArray := s.extract fr s.size ++ s.extract 0 fr
def backS (s : ByteArray) : ByteArray := ⟨((s.data.toList.map oppU).reverse).toArray⟩
def arS (back : Bool) (fr : Nat) (s : ByteArray) : ByteArray := if back then backS (rotS s fr) else rotS s fr
theorem rotS_list (s : ByteArray) {fr : Nat} (h : fr ≤ s.size) : (rotS s fr).data.toList = s.data.toList.drop fr ++ s.data.toList.take fr := by
  unfold rotS
  rw [ByteArray.data_append, ByteArray.data_extract, ByteArray.data_extract, Array.toList_append, Array.toList_extract, Array.toList_extract]
  have hs : s.data.toList.length = s.size := by simp
  simp only [List.extract, Nat.sub_zero, List.drop_zero]
  rw [List.take_of_length_le (by rw [List.length_drop, hs]; exact Nat.le_refl _)]
theorem dirs_rot (s : ByteArray) {fr : Nat} (h : fr ≤ s.size) : dirs (rotS s fr) = rotL fr (dirs s) := by
  unfold dirs rotL
  rw [rotS_list s h, List.map_append, List.map_drop, List.map_take]
theorem dirs_back (s : ByteArray) (h : ∀ k ∈ dirs s, k < 4) : dirs (backS s) = revL (dirs s) := by
  unfold dirs backS revL
  simp only [List.map_reverse, List.map_map]
  congr 1
  refine List.map_congr_left fun b hb => ?_
  exact oppU_dir b (h _ (List.mem_map.2 ⟨b, hb, rfl⟩))
theorem dirs_ar (s : ByteArray) {fr : Nat} (back : Bool) (h : fr ≤ s.size) (h4 : ∀ k ∈ dirs s, k < 4) : dirs (arS back fr s) = arL back fr (dirs s) := by
  cases back with
  | false => exact dirs_rot s h
  | true =>
    show dirs (backS (rotS s fr)) = revL (rotL fr (dirs s))
    rw [dirs_back, dirs_rot s h]
    intro k hk
    rw [dirs_rot s h] at hk
    unfold rotL at hk
    rcases List.mem_append.1 hk with hk | hk
    · exact h4 k (List.mem_of_mem_drop hk)
    · exact h4 k (List.mem_of_mem_take hk)
theorem chk0_of {X Y : Int} {s : ByteArray} (h1 : 4 ≤ s.size ∧ s.size ≤ 80) (h2 : ∀ k ∈ dirs s, k < 4) (h3 : ∀ q ∈ pts (X, Y) (dirs s), onB q) (h4 : clsd (X, Y) (dirs s) = true) : chkC X Y s = 0 := by
  have hlen := dirs_len s
  have hne : dirs s ≠ [] := fun e => by rw [e] at hlen; simp at hlen; omega
  have hxy : onB (X, Y) := h3 _ (List.mem_of_getElem? (pts_head _ _))
  have hpt : ptsW (X, Y) (dirs s) = pts (X, Y) (dirs s) := ptsW_is _ _ 8 (by omega) (by unfold onB at hxy; dsimp only at hxy ⊢; omega)
  have hfin : finW (X, Y) (dirs s) = fin (X, Y) (dirs s) := by
    have e1 := ptsW_last (X, Y) (dirs s)
    rw [hpt, pts_last] at e1
    exact (Option.some.inj e1).symm
  have a1 : inn 4 80 [(s.size : Int)] = true := inn_one.2 (by omega)
  have a2 : s.data.toList.all okL = true := List.all_eq_true.2 fun b hb => by
    unfold okL
    exact decide_eq_true (h2 _ (List.mem_map.2 ⟨b, hb, rfl⟩))
  have a3 : (ptsW (X, Y) (dirs s)).all onB' = true := by
    rw [hpt]
    refine List.all_eq_true.2 fun q hq => ?_
    have := h3 q hq
    unfold onB at this
    unfold onB'
    exact decide_eq_true this
  have a4 : (decide ((ptsW (X, Y) (dirs s)).tail.Nodup) && decide (finW (X, Y) (dirs s) = (X, Y))) = true := by
    rw [hpt, hfin, ← clsd_later hne]; exact h4
  unfold chkC
  rw [a1, a2, a3, a4]
  rfl
theorem chain_ar {X Y x y : Int} {s : ByteArray} (h : chkC X Y s = 0) {fr : Nat} (back : Bool) (hfr : fr < s.size) (hp : (ptsW (X, Y) (dirs s))[fr]? = some (x, y)) :
    chkC x y (arS back fr s) = 0 ∧ encl (sts (x, y) (dirs (arS back fr s))) = encl (sts (X, Y) (dirs s)) ∧ lftB (sts (x, y) (dirs (arS back fr s))) = (if back then !lftB (sts (X, Y) (dirs s)) else lftB (sts (X, Y) (dirs s))) ∧ (0 : Int) < (encl (sts (X, Y) (dirs s))).length ∧ stk G8 (wat (sts (X, Y) (dirs s))) = s.size := by
  obtain ⟨h1, h2, h3, h4, h5⟩ := chk0 h
  have hlen := dirs_len s
  rw [h3, fin_take_at _ _ _ (by omega)] at hp
  have hp := Option.some.inj hp
  obtain ⟨b1, b2, b3, b4, b5, b6⟩ := ar_plain (p := (X, Y)) fr back (by omega) h2 h4 h5
  have hd := dirs_ar s (fr := fr) back (by omega) h2
  have hsz : (arS back fr s).size = s.size := by rw [← dirs_len, hd, b1, hlen]
  rw [hp, ← hd] at b3 b4 b5 b6
  rw [← hd] at b1 b2
  have hlp := clsd_lp h2 (by omega) h5
  have hlp2 := clsd_lp b2 (by omega) b4
  have ho1 : ∀ t ∈ sts (X, Y) (dirs s), onB t.1 := fun t ht => h4 _ (by rw [pts_eq]; exact List.mem_append_left _ (List.mem_map.2 ⟨t, ht, rfl⟩))
  have ho2 : ∀ t ∈ sts (x, y) (dirs (arS back fr s)), onB t.1 := fun t ht => b3 _ (by rw [pts_eq]; exact List.mem_append_left _ (List.mem_map.2 ⟨t, ht, rfl⟩))
  obtain ⟨c1, c2, c3⟩ := hlp.area ho1
  obtain ⟨d1, d2, d3⟩ := hlp2.area ho2
  have hpos := (hlp.done ho1).2.1
  have hlen2 : (encl (sts (X, Y) (dirs s))).length = (List.range 64).countP (wat (sts (X, Y) (dirs s))) := by unfold encl; rw [List.countP_eq_length_filter]
  refine ⟨chk0_of (by omega) b2 b3 b4, b5, ?_, by omega, by rw [c3, sts_len, hlen]⟩
  rw [d2, c2, b6]
  cases back with
  | false => rfl
  | true =>
    show decide (0 < -area (sts (X, Y) (dirs s))) = !decide (0 < area (sts (X, Y) (dirs s)))
    rw [← decide_not, decide_eq_decide]
    omega
end Go.Proofs.Ytppjnpempgpkaaa
