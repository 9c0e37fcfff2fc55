/- BoomBoxed: plain. -/
import Derived.Test.YtppjnpempgpkaaaCK
namespace Go.Proofs.Ytppjnpempgpkaaa
set_option linter.unusedVariables false
set_option linter.unusedSimpArgs false
def bstF (st : BoxT × Nat) (x : BoxT) : BoxT × Nat := if st.2 < x.1 * x.2 then (x, x.1 * x.2) else st
theorem bst_fold : ∀ (L : List BoxT) (st : BoxT × Nat), st.2 = st.1.1 * st.1.2 → (L.foldl bstF st).2 = (L.foldl bstF st).1.1 * (L.foldl bstF st).1.2 ∧ st.2 ≤ (L.foldl bstF st).2 ∧ ∀ p ∈ L, p.1 * p.2 ≤ (L.foldl bstF st).2
  | [], st, h => ⟨h, Nat.le_refl _, fun p hp => by cases hp⟩
  | x :: L, st, h => by
    rw [List.foldl_cons]
    have h1 : (bstF st x).2 = (bstF st x).1.1 * (bstF st x).1.2 := by
      unfold bstF
      by_cases hx : st.2 < x.1 * x.2
      · rw [if_pos hx]
      · rw [if_neg hx]; exact h
    have h2 : st.2 ≤ (bstF st x).2 ∧ x.1 * x.2 ≤ (bstF st x).2 := by
      unfold bstF
      by_cases hx : st.2 < x.1 * x.2
      · rw [if_pos hx]; exact ⟨Nat.le_of_lt hx, Nat.le_refl _⟩
      · rw [if_neg hx]; exact ⟨Nat.le_refl _, Nat.le_of_not_lt hx⟩
    obtain ⟨a, b, c⟩ := bst_fold L (bstF st x) h1
    refine ⟨a, Nat.le_trans h2.1 b, fun p hp => ?_⟩
    rcases List.mem_cons.1 hp with rfl | hp
    · exact Nat.le_trans h2.2 b
    · exact c p hp
theorem bxs_has {W H a b : Nat} (ha : 1 ≤ a ∧ a ≤ W) (hb : 1 ≤ b ∧ b ≤ H) : (a, b) ∈ bxs W H := by
  have := bxs_at (W := W) (H := H) (i := a - 1) (j := b - 1) (by omega) (by omega)
  rw [show a - 1 + 1 = a by omega, show b - 1 + 1 = b by omega] at this
  exact List.mem_of_getElem? this
theorem most_facts {s : Int} {W H : Nat} (hW : 1 ≤ W) (hH : 1 ≤ H) (hs : 4 ≤ s) : (1 ≤ (mostB s W H).1 ∧ (mostB s W H).1 ≤ W) ∧ (1 ≤ (mostB s W H).2 ∧ (mostB s W H).2 ≤ H) ∧ ((2 * ((mostB s W H).1 + (mostB s W H).2) : Nat) : Int) ≤ s ∧
    ∀ a b : Nat, 1 ≤ a ∧ a ≤ W → 1 ≤ b ∧ b ≤ H → ((2 * (a + b) : Nat) : Int) ≤ s → a * b ≤ (mostB s W H).1 * (mostB s W H).2 := by
  obtain ⟨L, hL⟩ : ∃ L, L = (bxs W H).filter fun p => decide (((2 * (p.1 + p.2) : Nat) : Int) ≤ s) := ⟨_, rfl⟩
  have hm : mostB s W H = (bst L).1 := by rw [hL]; rfl
  obtain ⟨f1, -, f3⟩ := bst_fold L ((0, 0), 0) rfl
  have hb : L.foldl bstF ((0, 0), 0) = bst L := rfl
  rw [hb] at f1 f3
  have hall : ∀ a b : Nat, 1 ≤ a ∧ a ≤ W → 1 ≤ b ∧ b ≤ H → ((2 * (a + b) : Nat) : Int) ≤ s → a * b ≤ (bst L).1.1 * (bst L).1.2 := fun a b h1 h2 h3 => by
    rw [← f1]
    exact f3 (a, b) (by rw [hL]; exact List.mem_filter.2 ⟨bxs_has h1 h2, decide_eq_true h3⟩)
  have h11 := hall 1 1 (by omega) (by omega) (by omega)
  rw [hm]
  rcases bst_in L with e | e
  · rw [e] at h11; simp at h11
  · rw [hL] at e
    obtain ⟨e1, e2⟩ := List.mem_filter.1 e
    rw [← hL] at e1 e2
    obtain ⟨q1, q2⟩ := bxs_mem e1
    exact ⟨q1, q2, of_decide_eq_true e2, hall⟩
/-- The corner of the box around, from below and from above. -/
def loP (p : Pt) (l : List Pt) : Pt := l.foldl (fun a q => (min a.1 q.1, min a.2 q.2)) p
def hiP (p : Pt) (l : List Pt) : Pt := l.foldl (fun a q => (max a.1 q.1, max a.2 q.2)) p
theorem loP_snoc {p : Pt} {l : List Pt} {k : Nat} {q : Pt} (h : l[k]? = some q) : loP p (l.take (k + 1)) = (min (loP p (l.take k)).1 q.1, min (loP p (l.take k)).2 q.2) := by
  unfold loP; rw [take_snoc h, List.foldl_append]; rfl
theorem hiP_snoc {p : Pt} {l : List Pt} {k : Nat} {q : Pt} (h : l[k]? = some q) : hiP p (l.take (k + 1)) = (max (hiP p (l.take k)).1 q.1, max (hiP p (l.take k)).2 q.2) := by
  unfold hiP; rw [take_snoc h, List.foldl_append]; rfl
theorem loP_fold : ∀ (l : List Pt) (p : Pt), ((loP p l).1 ≤ p.1 ∧ (loP p l).2 ≤ p.2) ∧ (∀ q ∈ l, (loP p l).1 ≤ q.1 ∧ (loP p l).2 ≤ q.2) ∧ (∃ q ∈ p :: l, q.1 = (loP p l).1) ∧ ∃ q ∈ p :: l, q.2 = (loP p l).2
  | [], p => ⟨⟨Int.le_refl _, Int.le_refl _⟩, (fun q hq => by cases hq), ⟨p, by simp, rfl⟩, p, by simp, rfl⟩
  | x :: l, p => by
    obtain ⟨a, b, ⟨q, hq, e⟩, r, hr, e'⟩ := loP_fold l (min p.1 x.1, min p.2 x.2)
    have hd : loP p (x :: l) = loP (min p.1 x.1, min p.2 x.2) l := rfl
    rw [hd]
    dsimp only at a
    refine ⟨by omega, fun z hz => ?_, ?_, ?_⟩
    · rcases List.mem_cons.1 hz with rfl | hz
      · omega
      · exact b z hz
    · rcases List.mem_cons.1 hq with rfl | hq
      · dsimp only at e
        by_cases hm : p.1 ≤ x.1
        · exact ⟨p, by simp, by omega⟩
        · exact ⟨x, by simp, by omega⟩
      · exact ⟨q, by simp [hq], e⟩
    · rcases List.mem_cons.1 hr with rfl | hr
      · dsimp only at e'
        by_cases hm : p.2 ≤ x.2
        · exact ⟨p, by simp, by omega⟩
        · exact ⟨x, by simp, by omega⟩
      · exact ⟨r, by simp [hr], e'⟩
theorem hiP_fold : ∀ (l : List Pt) (p : Pt), (p.1 ≤ (hiP p l).1 ∧ p.2 ≤ (hiP p l).2) ∧ (∀ q ∈ l, q.1 ≤ (hiP p l).1 ∧ q.2 ≤ (hiP p l).2) ∧ (∃ q ∈ p :: l, q.1 = (hiP p l).1) ∧ ∃ q ∈ p :: l, q.2 = (hiP p l).2
  | [], p => ⟨⟨Int.le_refl _, Int.le_refl _⟩, (fun q hq => by cases hq), ⟨p, by simp, rfl⟩, p, by simp, rfl⟩
  | x :: l, p => by
    obtain ⟨a, b, ⟨q, hq, e⟩, r, hr, e'⟩ := hiP_fold l (max p.1 x.1, max p.2 x.2)
    have hd : hiP p (x :: l) = hiP (max p.1 x.1, max p.2 x.2) l := rfl
    rw [hd]
    dsimp only at a
    refine ⟨by omega, fun z hz => ?_, ?_, ?_⟩
    · rcases List.mem_cons.1 hz with rfl | hz
      · omega
      · exact b z hz
    · rcases List.mem_cons.1 hq with rfl | hq
      · dsimp only at e
        by_cases hm : x.1 ≤ p.1
        · exact ⟨p, by simp, by omega⟩
        · exact ⟨x, by simp, by omega⟩
      · exact ⟨q, by simp [hq], e⟩
    · rcases List.mem_cons.1 hr with rfl | hr
      · dsimp only at e'
        by_cases hm : x.2 ≤ p.2
        · exact ⟨p, by simp, by omega⟩
        · exact ⟨x, by simp, by omega⟩
      · exact ⟨r, by simp [hr], e'⟩
/-- A valid chain and the box around it. -/
theorem around_box {X Y : Int} {s : ByteArray} (h : chkC X Y s = 0) : ∃ lo hi : Pt, loP (X, Y) (ptsW (X, Y) (dirs s)) = lo ∧ hiP (X, Y) (ptsW (X, Y) (dirs s)) = hi ∧ (∀ q ∈ ptsW (X, Y) (dirs s), (0 ≤ q.1 ∧ q.1 ≤ 8) ∧ 0 ≤ q.2 ∧ q.2 ≤ 8) ∧
    ∃ dx dy : Nat, hi.1 - lo.1 = (dx : Int) ∧ hi.2 - lo.2 = (dy : Int) ∧ (1 ≤ dx ∧ dx ≤ 8) ∧ (1 ≤ dy ∧ dy ≤ 8) ∧ 2 * (dx + dy) ≤ s.size ∧ (encl (sts (X, Y) (dirs s))).length ≤ dx * dy := by
  obtain ⟨h1, h2, h3, h4, h5⟩ := chk0 h
  have hlen := dirs_len s
  have hlp := clsd_lp h2 (by omega) h5
  have ho : ∀ t ∈ sts (X, Y) (dirs s), onB t.1 := fun t ht => h4 _ (by rw [pts_eq]; exact List.mem_append_left _ (List.mem_map.2 ⟨t, ht, rfl⟩))
  rw [h3]
  obtain ⟨a1, a2, ⟨qa, ha, ea⟩, qc, hc, ec⟩ := loP_fold (pts (X, Y) (dirs s)) (X, Y)
  obtain ⟨b1, b2, ⟨qb, hb, eb⟩, qd, hd, ed⟩ := hiP_fold (pts (X, Y) (dirs s)) (X, Y)
  obtain ⟨lo, hlo⟩ : ∃ lo, loP (X, Y) (pts (X, Y) (dirs s)) = lo := ⟨_, rfl⟩
  obtain ⟨hi, hhi⟩ : ∃ hi, hiP (X, Y) (pts (X, Y) (dirs s)) = hi := ⟨_, rfl⟩
  rw [hlo] at a1 a2 ea ec
  rw [hhi] at b1 b2 eb ed
  have hcor : ∀ q ∈ (X, Y) :: pts (X, Y) (dirs s), ∃ t ∈ sts (X, Y) (dirs s), t.1 = q := fun q hq => by
    have hne : (sts (X, Y) (dirs s)) ≠ [] := fun e => by have := sts_len (X, Y) (dirs s); rw [e] at this; simp at this; omega
    have hfirst : ∃ t ∈ sts (X, Y) (dirs s), t.1 = (X, Y) := by
      cases hds : dirs s with
      | nil => rw [hds] at hne; exact absurd rfl hne
      | cons k ks => exact ⟨((X, Y), k), by simp [sts], rfl⟩
    rcases List.mem_cons.1 hq with rfl | hq
    · exact hfirst
    · rw [pts_eq] at hq
      rcases List.mem_append.1 hq with hq | hq
      · obtain ⟨t, ht, rfl⟩ := List.mem_map.1 hq
        exact ⟨t, ht, rfl⟩
      · rw [List.mem_singleton] at hq
        rw [hq, (clsd_iff.1 h5).1]
        exact hfirst
  obtain ⟨ta, hta, eta⟩ := hcor qa ha
  obtain ⟨tb, htb, etb⟩ := hcor qb hb
  obtain ⟨tc, htc, etc⟩ := hcor qc hc
  obtain ⟨td, htd, etd⟩ := hcor qd hd
  have hbox := hlp.box hta htb htc htd
  rw [eta, etb, etc, etd, ea, eb, ec, ed, sts_len, hlen] at hbox
  have hall : ∀ t ∈ sts (X, Y) (dirs s), (lo.1 ≤ t.1.1 ∧ t.1.1 ≤ hi.1) ∧ lo.2 ≤ t.1.2 ∧ t.1.2 ≤ hi.2 := fun t ht => by
    have hm : t.1 ∈ pts (X, Y) (dirs s) := by rw [pts_eq]; exact List.mem_append_left _ (List.mem_map.2 ⟨t, ht, rfl⟩)
    have := a2 _ hm; have := b2 _ hm
    omega
  have hin : ∀ c ∈ encl (sts (X, Y) (dirs s)), (lo.1 ≤ cx c ∧ cx c < hi.1) ∧ lo.2 ≤ cy c ∧ cy c < hi.2 := fun c hc => by
    have hw := (List.mem_filter.1 hc).2
    unfold wat at hw
    exact hlp.inside hall (by simpa using hw)
  have hpos := (hlp.done ho).2.1
  have hlen2 : (encl (sts (X, Y) (dirs s))).length = (List.range 64).countP (wat (sts (X, Y) (dirs s))) := by unfold encl; rw [List.countP_eq_length_filter]
  obtain ⟨c0, hc0⟩ := List.exists_mem_of_length_pos (show 0 < (encl (sts (X, Y) (dirs s))).length by omega)
  have hi0 := hin c0 hc0
  have oa := ho ta hta; have ob := ho tb htb; have oc := ho tc htc; have od := ho td htd
  rw [eta] at oa; rw [etb] at ob; rw [etc] at oc; rw [etd] at od
  unfold onB at oa ob oc od
  obtain ⟨dx, hdx⟩ : ∃ dx : Nat, hi.1 - lo.1 = (dx : Int) := ⟨(hi.1 - lo.1).toNat, by omega⟩
  obtain ⟨dy, hdy⟩ : ∃ dy : Nat, hi.2 - lo.2 = (dy : Int) := ⟨(hi.2 - lo.2).toNat, by omega⟩
  refine ⟨lo, hi, hlo, hhi, fun q hq => by have := h4 q hq; unfold onB at this; exact this, dx, dy, hdx, hdy, by omega, by omega, by omega, ?_⟩
  have hnd : ((encl (sts (X, Y) (dirs s))).map fun c => (cx c - lo.1).toNat * dy + (cy c - lo.2).toNat).Nodup := by
    refine nd_map_on ?_ ((List.nodup_range).filter _)
    intro c hc d hd e
    have h6 := hin c hc; have h7 := hin d hd
    have hc64 := List.mem_range.1 (List.mem_filter.1 hc).1
    have hd64 := List.mem_range.1 (List.mem_filter.1 hd).1
    have q1 : (cy c - lo.2).toNat < dy := by omega
    have q2 : (cy d - lo.2).toNat < dy := by omega
    obtain ⟨r1, r2⟩ := co (W := dy) (cx c - lo.1).toNat q1
    obtain ⟨r3, r4⟩ := co (W := dy) (cx d - lo.1).toNat q2
    rw [e] at r1 r2
    have e1 : (cy c - lo.2).toNat = (cy d - lo.2).toNat := by rw [← r1, r3]
    have e2 : (cx c - lo.1).toNat = (cx d - lo.1).toNat := by rw [← r2, r4]
    unfold cx cy at *
    omega
  have hlt : ∀ z ∈ (encl (sts (X, Y) (dirs s))).map fun c => (cx c - lo.1).toNat * dy + (cy c - lo.2).toNat, z < dx * dy := fun z hz => by
    obtain ⟨c, hc, rfl⟩ := List.mem_map.1 hz
    have h6 := hin c hc
    have h7 := co_lt (W := dy) (H := dx) (x := (cy c - lo.2).toNat) (y := (cx c - lo.1).toNat) (by omega) (by omega)
    rw [Nat.mul_comm dy dx] at h7
    exact h7
  have := nodup_lt _ hnd hlt
  rwa [List.length_map] at this
/-- The chain round a box, in letters. -/
def eW (k : Nat) : ByteArray := ⟨(List.replicate k (69 : UInt8) ++ List.replicate k (87 : UInt8) : List UInt8).toArray⟩
def rep1 (b : UInt8) (k : Nat) : ByteArray := ⟨(List.replicate k b).toArray⟩
theorem eW_succ (k : Nat) : (ByteArray.mk #[69] ++ eW k) ++ ByteArray.mk #[87] = eW (k + 1) := by
  have h1 := ByteArray.mk_append_mk [69] (List.replicate k 69 ++ List.replicate k 87)
  have h2 := ByteArray.mk_append_mk ([69] ++ (List.replicate k 69 ++ List.replicate k 87)) [87]
  unfold eW
  rw [show (ByteArray.mk #[69]) = ByteArray.mk ([69] : List UInt8).toArray from rfl, h1, show (ByteArray.mk #[87]) = ByteArray.mk ([87] : List UInt8).toArray from rfl, h2]
  congr 2
  rw [List.replicate_succ, List.replicate_succ']
  simp
theorem rep1_succ (b : UInt8) (k : Nat) : rep1 b k ++ ByteArray.mk #[b] = rep1 b (k + 1) := by
  have h1 := ByteArray.mk_append_mk (List.replicate k b) [b]
  unfold rep1
  rw [show (ByteArray.mk #[b]) = ByteArray.mk ([b] : List UInt8).toArray from rfl, h1, List.replicate_succ']
theorem eW_size (k : Nat) : (eW k).size = 2 * k := by
  show (List.replicate k 69 ++ List.replicate k 87 : List UInt8).toArray.size = _
  simp; omega
theorem rep1_size (b : UInt8) (k : Nat) : (rep1 b k).size = k := by
  show (List.replicate k b).toArray.size = _
  simp
def boxS (x y : Nat) : ByteArray := (((eW x).extract 0 x ++ rep1 78 y) ++ (eW x).extract x (eW x).size) ++ rep1 83 y
theorem boxS_list (x y : Nat) : (boxS x y).data.toList = List.replicate x 69 ++ List.replicate y 78 ++ List.replicate x 87 ++ List.replicate y 83 := by
  unfold boxS
  rw [eW_size, ByteArray.data_append, ByteArray.data_append, ByteArray.data_append, ByteArray.data_extract, ByteArray.data_extract, Array.toList_append, Array.toList_append, Array.toList_append, Array.toList_extract, Array.toList_extract]
  show (List.extract (List.replicate x 69 ++ List.replicate x 87) 0 x) ++ List.replicate y 78 ++ (List.extract (List.replicate x 69 ++ List.replicate x 87) x (2 * x)) ++ List.replicate y 83 = _
  have e1 : List.extract (List.replicate x 69 ++ List.replicate x 87 : List UInt8) 0 x = List.replicate x 69 := by
    simp only [List.extract, Nat.sub_zero, List.drop_zero]
    exact List.take_left' (by simp)
  have e2 : List.extract (List.replicate x 69 ++ List.replicate x 87 : List UInt8) x (2 * x) = List.replicate x 87 := by
    simp only [List.extract]
    rw [List.drop_left' (by simp), List.take_of_length_le (by simp; omega)]
  rw [e1, e2]
theorem dirs_box (x y : Nat) : dirs (boxS x y) = boxL x y := by
  unfold dirs boxL
  rw [boxS_list]
  simp only [List.map_append, List.map_replicate]
  rfl
theorem boxS_size (x y : Nat) : (boxS x y).size = 2 * (x + y) := by
  rw [← dirs_len, dirs_box]
  unfold boxL
  simp; omega
def boxOk2 : Bool := (List.range 8).all fun i => (List.range 8).all fun j => clsd (0, 0) (boxL (i + 1) (j + 1)) && (pts (0, 0) (boxL (i + 1) (j + 1))).all onB' && (boxL (i + 1) (j + 1)).all fun k => decide (k < 4)
set_option maxRecDepth 100000 in
theorem box_ok2 : boxOk2 = true := by decide +kernel
theorem box_area {x y : Nat} (h1 : 1 ≤ x ∧ x ≤ 8) (h2 : 1 ≤ y ∧ y ≤ 8) : chkC 0 0 (boxS x y) = 0 ∧ (encl (sts (0, 0) (dirs (boxS x y)))).length = x * y ∧ lftB (sts (0, 0) (dirs (boxS x y))) = true := by
  obtain ⟨i, rfl⟩ : ∃ i, x = i + 1 := ⟨x - 1, by omega⟩
  obtain ⟨j, rfl⟩ : ∃ j, y = j + 1 := ⟨y - 1, by omega⟩
  have h := box_ok2
  unfold boxOk2 at h
  have h3 := List.all_eq_true.1 (List.all_eq_true.1 h i (List.mem_range.2 (by omega))) j (List.mem_range.2 (by omega))
  rw [Bool.and_eq_true, Bool.and_eq_true] at h3
  obtain ⟨⟨c1, c2⟩, c3⟩ := h3
  obtain ⟨b1, b2, b3⟩ := box_is (x := i + 1) (y := j + 1) (by omega) (by omega)
  obtain ⟨d1, d2, -⟩ := b1.area b2
  have har : area (sts (0, 0) (boxL (i + 1) (j + 1))) = (((i + 1) * (j + 1) : Nat) : Int) := b3
  have hp : 0 < (i + 1) * (j + 1) := Nat.mul_pos (by omega) (by omega)
  have hsz : 4 ≤ (boxS (i + 1) (j + 1)).size ∧ (boxS (i + 1) (j + 1)).size ≤ 80 := by rw [boxS_size]; omega
  have hon : ∀ q ∈ pts (0, 0) (dirs (boxS (i + 1) (j + 1))), onB q := by
    rw [dirs_box]
    intro q hq
    have h5 := List.all_eq_true.1 c2 q hq
    unfold onB' at h5
    unfold onB
    exact of_decide_eq_true h5
  have h44 : ∀ k ∈ dirs (boxS (i + 1) (j + 1)), k < 4 := by
    rw [dirs_box]
    exact fun k hk => of_decide_eq_true (List.all_eq_true.1 c3 k hk)
  have hcl : clsd (0, 0) (dirs (boxS (i + 1) (j + 1))) = true := by rw [dirs_box]; exact c1
  refine ⟨chk0_of hsz h44 hon hcl, ?_, ?_⟩
  all_goals rw [dirs_box]
  · rw [har] at d1; omega
  · rw [d2, har]; exact decide_eq_true (by omega)
end Go.Proofs.Ytppjnpempgpkaaa
