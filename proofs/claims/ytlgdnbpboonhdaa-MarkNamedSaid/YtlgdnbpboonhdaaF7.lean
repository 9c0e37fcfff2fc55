/- The search for a greatest family. greatest and Family, by their contracts. Family and CheckFamily, by their contracts. -/
import Derived.Test.YtlgdnbpboonhdaaF4
import Derived.Laws.CopyOwn
import Derived.Deep.RegionLawGrows
import Derived.IntWalk
import Derived.Lib.JoinLaws
import Derived.Laws.EntriesVeiled
namespace Go.Proofs.Ytlgdnbpboonhdaa
open Go.RowKit Go.Shelf Go.Maps
set_option linter.unusedVariables false
attribute [local go_sem] Oper.semAt_some
/-- The search, as the program does it. -/
def updL (fam best : List Nat) : List Nat := if best.length < fam.length then fam else best
def searchL (g : Nat × Nat → Option Nat) : List Nat → List Nat → List Nat → List Nat
  | _, [], best => best
  | fam, i :: r, best => if fam.length + (r.length + 1) ≤ best.length then best else searchL g fam r (if fitsB g fam i then searchL g (fam ++ [i]) r (updL (fam ++ [i]) best) else best)
theorem keepBut_setRow (W : World) {rs : List Nat} {g : Nat} (hg : g ∈ rs) (cs : Array Value) : KeepBut rs W (W.setRow g cs) :=
  ⟨rfl, rfl, rfl, by simp [World.setRow], fun k hk hn => setRow_other W g k cs (fun e => hn (e ▸ hg))⟩
/-- A list in memory that lies in none of some blocks. -/
def RN (rs : List Nat) (W : World) (v : Value) (xs : List Nat) : Prop := Reads W v (ints xs) ∧ CapOk v ∧ ∀ b off n c, v = .slice (some ⟨b, off, none⟩) n c → xs ≠ [] → b ∉ rs
theorem RN.keep {rs : List Nat} {W W' : World} {v : Value} {xs : List Nat} (h : RN rs W v xs) (hk : KeepBut rs W W') : RN rs W' v xs := by
  refine ⟨?_, h.2⟩
  obtain ⟨⟨hl, a, cap, rfl, h1⟩, -, h3⟩ := h
  refine ⟨hl, a, cap, rfl, h1.imp id ?_⟩
  rintro ⟨b, off, rfl, hc⟩
  exact ⟨b, off, rfl, fun i hi => hk.cell (h3 _ _ _ _ rfl (fun e => by rw [e] at hi; simp [ints] at hi)) (hc i hi)⟩
/-- The best family yet: its box, and the array behind it. -/
def BestAt (W : World) (Bb X N : Nat) (best : List Nat) : Prop :=
  Boxed W Bb 22 (.slice (some ⟨X, 0, none⟩) best.length N) ∧ best.length ≤ N ∧ ∃ cur : List Value, W.heap[X]? = some (.cells cur.toArray 3 (0, 0)) ∧ cur.length = N ∧ cur.take best.length = (ints best).map (Value.int .i64)
theorem BestAt.ext {W W' : World} {Bb X N : Nat} {best : List Nat} (h : BestAt W Bb X N best) (e : Ext W W') : BestAt W' Bb X N best := by
  obtain ⟨h1, h2, cur, h3, h4⟩ := h
  exact ⟨block_ext e h1, h2, cur, block_ext e h3, h4⟩
theorem BestAt.reads {W : World} {Bb X N : Nat} {best : List Nat} (h : BestAt W Bb X N best) (hl : best.length ≤ 5000) : Reads W (.slice (some ⟨X, 0, none⟩) best.length N) (ints best) := by
  obtain ⟨h1, h2, cur, h3, h4, h5⟩ := h
  refine ⟨by rw [ints_length]; exact hl, _, N, by rw [ints_length], .inr ⟨X, 0, rfl, fun i hi => ?_⟩⟩
  rw [ints_length] at hi
  rw [cell_of_row _ _ _ _ _ _ h3, Nat.zero_add]
  have h6 : (cur.take best.length)[i]? = some (.int .i64 ((ints best)[i]?.getD 0)) := by rw [h5]; simp [ints, hi]
  rw [List.getElem?_take_of_lt hi] at h6
  simpa using h6
/-- What the search only reads. -/
def Ctx (W : World) (Bb Ba Bs mb nn : Nat) (p : Option Addr) (u : Value) (g : Nat × Nat → Option Nat) : Prop :=
  W.heap[Ba]? = some (.cells #[.pointer p, u, .map (some mb)] 93 (0, 0)) ∧ Boxed W Bs 110 (.func (.func 102) #[] #[.pointer (some ⟨Bb, 0, none⟩), .pointer (some ⟨Ba, 0, none⟩), .pointer (some ⟨Bs, 0, none⟩)]) ∧ ClMap W mb nn g
theorem Ctx.keep {rs : List Nat} {W W' : World} {Bb Ba Bs mb nn : Nat} {p : Option Addr} {u : Value} {g : Nat × Nat → Option Nat} (h : Ctx W Bb Ba Bs mb nn p u g) (hk : KeepBut rs W W') (h1 : Ba ∉ rs) (h2 : Bs ∉ rs) (h3 : mb ∉ rs) : Ctx W' Bb Ba Bs mb nn p u g :=
  ⟨(hk.block Ba (Array.getElem?_eq_some_iff.1 h.1).1 h1).trans h.1, (hk.block Bs h.2.1.lt h2).trans h.2.1, h.2.2.block (hk.block mb h.2.2.lt h3)⟩
theorem Reads.cells {W : World} {b off n cap : Nat} {ms : List Nat} (h : Reads W (.slice (some ⟨b, off, none⟩) n cap) (ints ms)) {k m : Nat} (hk : ms[k]? = some m) : W.cell? ⟨b, off + k, none⟩ = some (.int .i64 (m : Int)) := by
  obtain ⟨b', off', e, -, hc⟩ := h.atN hk
  cases e; exact hc
theorem grown_none {A B : World} (h : A.grownBy B none) : Ext A B := ⟨h.os, h.tape, h.output, h.size, fun k hk => h.block k hk (fun e => by cases e)⟩
theorem rn_owned {W : World} {rs : List Nat} {B : Nat} {v : Value} {xs : List Nat} {zs : List Value} {n : Nat} (h : W.ownsRow B 3 1 v n zs) (hn : n = xs.length) (hz : zs = (ints xs).map (Value.int .i64)) (hl : xs.length ≤ 5000) (hrs : ∀ r ∈ rs, r < B) : RN rs W v xs := by
  subst hn hz
  have ho : Owns B W v (ints xs) := by unfold Owns; rw [ints_length]; exact h
  refine ⟨ho.reads (by rw [ints_length]; exact hl), ho.capOk, fun b off n c e _ hb => ?_⟩
  obtain ⟨_, h⟩ := h
  rcases h with ⟨rfl, _⟩ | ⟨g, cap, cur, rfl, hg, _⟩
  · cases e
  · cases e
    have := hrs _ hb
    omega
theorem rn_drop {W : World} {rs : List Nat} {b off n cap k : Nat} {rest : List Nat} {A : Option Addr} (h : RN rs W (.slice (some ⟨b, off, none⟩) n cap) rest) (hk : k < rest.length) (hA : (if cap = k + 1 then some (⟨b, off, none⟩ : Addr) else some ⟨b, off + (k + 1), none⟩) = A) :
    RN rs W (.slice A (n - (k + 1)) (cap - (k + 1))) (rest.drop (k + 1)) := by
  have hle := h.2.1.le
  obtain ⟨⟨hl, a', cap', e, h1⟩, -, h3⟩ := h
  have hn : n = rest.length := by rw [← ints_length]; exact (Value.slice.inj e).2.1
  have ha : some (⟨b, off, none⟩ : Addr) = a' := (Value.slice.inj e).1
  have hlen : (ints (rest.drop (k + 1))).length = rest.length - (k + 1) := by simp [ints]
  rw [ints_length] at hl
  subst ha
  rcases h1 with ⟨e1, _⟩ | ⟨b', off', e1, hc⟩
  · cases e1
  cases e1
  by_cases hcap : cap = k + 1
  · rw [if_pos hcap] at hA
    subst hA
    have h0 : rest.length - (k + 1) = 0 := by omega
    refine ⟨⟨by omega, _, _, by rw [hlen, hn], .inr ⟨b, off, rfl, fun i hi => by omega⟩⟩, ⟨_, _, _, rfl, by omega⟩, fun b' off' n' c' e _ => by cases e; exact h3 _ _ _ _ rfl (fun e => by rw [e] at hk; simp at hk)⟩
  · rw [if_neg hcap] at hA
    subst hA
    refine ⟨⟨by omega, _, _, by rw [hlen, hn], .inr ⟨b, off + (k + 1), rfl, fun i hi => ?_⟩⟩, ⟨_, _, _, rfl, by omega⟩, fun b' off' n' c' e _ => by cases e; exact h3 _ _ _ _ rfl (fun e => by rw [e] at hk; simp at hk)⟩
    rw [hlen] at hi
    have := hc (k + 1 + i) (by rw [ints_length]; omega)
    rw [show off + (k + 1) + i = off + (k + 1 + i) by omega, this]
    simp [ints]
def PostS (Bb X N : Nat) (res : List Nat) (W : World) (e : Ending) (w' : World) : Prop := e = .returned (.tuple #[]) ∧ BestAt w' Bb X N res ∧ KeepBut [Bb, X] W w'
set_option maxRecDepth 100000 in
set_option maxHeartbeats 4000000 in
theorem search102 (Bb X N Ba Bs mb nn : Nat) (p : Option Addr) (u : Value) (g : Nat × Nat → Option Nat) (hBX : Bb ≠ X) (hBa : Ba ∉ [Bb, X]) (hBs : Bs ∉ [Bb, X]) (hmb : mb ∉ [Bb, X]) (hN : N ≤ 1000) :
    ∀ (m : Nat) (rest fam best : List Nat) (fv rv : Value) (W : World), rest.length = m → (∀ x ∈ rest, x < 1000) → (∀ x ∈ fam, x < 1000) → fam.length + rest.length ≤ N →
      Ctx W Bb Ba Bs mb nn p u g → BestAt W Bb X N best → RN [Bb, X] W fv fam → RN [Bb, X] W rv rest →
      Calls Try.prog 102 #[fv, rv, .pointer (some ⟨Bb, 0, none⟩), .pointer (some ⟨Ba, 0, none⟩), .pointer (some ⟨Bs, 0, none⟩)] W (PostS Bb X N (searchL g fam rest (updL fam best)) W) := by
  intro m
  induction m using Nat.strongRecOn with
  | _ m ih =>
  intro rest fam best fv rv W hm hr1 hf1 hlen hctx hbest hfv hrv
  have IH := Lib.hid ih
  obtain ⟨hl, a, cap, rfl⟩ := hfv.1.shape
  obtain ⟨hl2, a2, cap2, rfl⟩ := hrv.1.shape
  have hcap := hfv.2.1.le
  have hcap2 := hrv.2.1.le
  simp only [ints_length] at *
  have hN2 := hbest.2.1
  have c0 := hbest.1.cell
  have f0 := hbest.1.frozen
  have HC := Lib.hid hctx; have HB := Lib.hid hbest; have HF := Lib.hid hfv; have HR := Lib.hid hrv; have HR1 := Lib.hid hr1; have HF1 := Lib.hid hf1; have HM := Lib.hid hm
  clear ih hctx hbest hfv hrv hr1 hf1 hm
  by_cases hup : best.length < fam.length
  case' pos =>
    have hx1 : (best.length : Int) < (fam.length : Int) := by omega
    have hx2 : (fam.length : Int) ≤ (N : Int) := by omega
    obtain ⟨b1, off, ha, -, -⟩ := HF.out.1.atN (k := 0) (m := fam[0]) (by simp)
    have hcells : ∀ {k m : Nat}, fam[k]? = some m → W.cell? ⟨b1, off + k, none⟩ = some (.int .i64 (m : Int)) := fun hk => by
      have h := HF.out.1
      rw [ha] at h
      exact h.cells hk
    have HA1 := Lib.hid ha
    obtain ⟨hq1, hq2, cur, hq3, hq4, hq5⟩ := HB.out
    have hb1 : b1 ∉ [Bb, X] := HF.out.2.2 _ _ _ _ (by rw [ha]) (fun e => by rw [e] at hup; simp at hup)
    clear ha
    have hXs : (W.setCell ⟨Bb, 0, none⟩ (.slice (some ⟨X, 0, none⟩) fam.length N)).heap[X]? = some (.cells cur.toArray 3 (0, 0)) := by rw [set_other (Ne.symm hBX)]; exact hq3
    obtain ⟨cs, hcs⟩ : ∃ cs : List Value, cs = (ints fam).map (Value.int .i64) := ⟨_, rfl⟩
    have hcl : cs.length = fam.length := by rw [hcs]; simp [ints]
    have hcc : ∀ j v, cs[j]? = some v → (W.setCell ⟨Bb, 0, none⟩ (.slice (some ⟨X, 0, none⟩) fam.length N)).cell? (Addr.add ⟨b1, off, none⟩ j) = some v := by
      intro j v hj
      rw [hcs] at hj
      obtain ⟨z, hz, rfl⟩ : ∃ z, fam[j]? = some z ∧ v = .int .i64 (z : Int) := by
        simp only [ints, List.map_map, List.getElem?_map] at hj
        obtain ⟨z, hz, rfl⟩ := Option.map_eq_some_iff.1 hj
        exact ⟨z, hz, rfl⟩
      have h9 := far_set (o' := 0) (u := .slice (some ⟨X, 0, none⟩) fam.length N) (hcells hz) (g' := Bb) (fun e => hb1 (by have e' : Bb = b1 := e; rw [← e']; simp))
      rw [show (Addr.add ⟨b1, off, none⟩ j) = ⟨b1, off + j, none⟩ from by simp [Addr.add]]
      exact h9
    have hB1 : BestAt ((W.setCell ⟨Bb, 0, none⟩ (.slice (some ⟨X, 0, none⟩) fam.length N)).setRow X (cur.toArray.toList.take 0 ++ (cs ++ cur.toArray.toList.drop (0 + cs.length))).toArray) Bb X N (updL fam best) := by
      have hu : updL fam best = fam := if_pos hup
      rw [hu]
      refine ⟨?_, by omega, cs ++ cur.drop cs.length, ?_, ?_, ?_⟩
      · show _ = _
        rw [setRow_other _ _ _ _ hBX]
        exact Boxed.set _ hq1
      · simpa using setRow_heap _ X _ _ 3 (0, 0) hXs
      · simp; omega
      · rw [← hcl, List.take_left', hcs]; rfl
    have hK1 : KeepBut [Bb, X] W ((W.setCell ⟨Bb, 0, none⟩ (.slice (some ⟨X, 0, none⟩) fam.length N)).setRow X (cur.toArray.toList.take 0 ++ (cs ++ cur.toArray.toList.drop (0 + cs.length))).toArray) :=
      (KeepBut.set W (by simp) _).trans (keepBut_setRow _ (by simp) _)
    obtain ⟨X1, hX1⟩ : ∃ X1, X1 = ((W.setCell ⟨Bb, 0, none⟩ (.slice (some ⟨X, 0, none⟩) fam.length N)).setRow X (cur.toArray.toList.take 0 ++ (cs ++ cur.toArray.toList.drop (0 + cs.length))).toArray) := ⟨_, rfl⟩
    rw [← hX1] at hB1 hK1
    have HB1 := Lib.hid hB1; have HK1 := Lib.hid hK1; have HX1 := Lib.hid hX1; have HXs := Lib.hid hXs; have HCC := Lib.hid hcc; have HCL := Lib.hid hcl; have HCS := Lib.hid hcs
    clear hB1 hK1 hX1 hXs hcc hcl hcs hq1 hq3 hq5 hcells hb1
    have hfitl : 0 + cs.length ≤ cur.toArray.size := by rw [HCL.out]; simp only [List.size_toArray]; omega
    go_enter Try.func102, Try.ntmps102
    go_wp2_with (refine wpList_copy_own rfl (.tmp 18) (.tmp 19) 22 22 rfl 3 Try.underlying22 (by kernel_rfl) X 0 fam.length N ⟨b1, off, none⟩ fam.length cap rfl (congrArg (fun z => Value.slice z fam.length cap) HA1.out) cur.toArray 3 HXs.out cs (by rw [HCL.out]; simp) HCC.out hfitl (by rw [HCS.out]; intro v hv; obtain ⟨z, -, rfl⟩ := List.mem_map.1 hv; rfl) ?_; rw [← HX1.out])
    clear HA1 HX1 HXs HCC HCL HCS hfitl c0 f0 hx1 hx2
  case' neg =>
    have hx1 : ¬ (best.length : Int) < (fam.length : Int) := by omega
    have HB1 : Hid (BestAt W Bb X N (updL fam best)) := by rw [show updL fam best = best from if_neg hup]; exact HB
    have HK1 : Hid (KeepBut [Bb, X] W W) := KeepBut.refl _ _
    go_enter Try.func102, Try.ntmps102
    go_wp2
    clear hx1 c0 f0
  all_goals
    have HC1 := Lib.hid (HC.out.keep HK1.out hBa hBs hmb); have HF2 := Lib.hid (HF.out.keep HK1.out); have HR2 := Lib.hid (HR.out.keep HK1.out)
    have h1000 : fam.length ≤ 1000 := by omega
    have h2000 : rest.length ≤ 1000 := by omega
    go_loopw [23] (fun j wr => ∃ k : Nat, k ≤ rest.length ∧ j = .int .i64 (k : Int) ∧ ∃ bst, Hid (BestAt wr Bb X N bst ∧ KeepBut [Bb, X] W wr ∧ searchL g fam rest (updL fam best) = searchL g fam (rest.drop k) bst)) (fun j _ => rest.length - (RowKit.intOf j).toNat)
    case atStart => exact ⟨0, Nat.zero_le _, rfl, _, HB1.out, HK1.out, by rw [List.drop_zero]⟩
    case round =>
      obtain ⟨k, hk, rfl, bst, hrel⟩ := hrel
      by_cases hlt : k < rest.length
      · have hmk : rest[k]? = some (mAt rest k) := by simp [mAt, hlt]
        have hdrop : rest.drop k = mAt rest k :: rest.drop (k + 1) := by
          have := List.drop_eq_getElem_cons hlt
          rw [this]; simp [mAt, hlt]
        have hRr := HR.out.keep hrel.out.2.1
        obtain ⟨b2, off2, rfl, -, hcy⟩ := hRr.1.atN hmk
        have hm1 := HR1.out _ (List.mem_of_getElem? hmk)
        have hka : (0 : Int) ≤ (k : Int) := by omega
        have hkb : (k : Int) < (rest.length : Int) := by omega
        have c0 := hrel.out.1.1.cell
        have hbN := hrel.out.1.2.1
        have HRr := Lib.hid hRr; have HD := Lib.hid hdrop
        clear hmk hdrop hRr
        by_cases hstop : (fam.length : Int) + (rest.length : Int) - (k : Int) ≤ (bst.length : Int)
        · have hs : searchL g fam (rest.drop k) bst = bst := by
            rw [HD.out]
            unfold searchL
            rw [if_pos (by simp; omega)]
          have HS := Lib.hid hs; clear hs
          go_wp2
          refine bodyPost_ret (results_none rfl _ _ _) rfl ?_
          refine ⟨rfl, ?_, hrel.out.2.1⟩
          rw [hrel.out.2.2, HS.out]; exact hrel.out.1
        · have hCr := HC.out.keep hrel.out.2.1 hBa hBs hmb
          have a0 : wr.cell? ⟨Ba, 0, none⟩ = some (.pointer p) := by rw [cell_of_row _ _ _ _ _ _ hCr.1]; rfl
          have a1 : wr.cell? ⟨Ba, 1, none⟩ = some u := by rw [cell_of_row _ _ _ _ _ _ hCr.1]; rfl
          have a2 : wr.cell? ⟨Ba, 2, none⟩ = some (.map (some mb)) := by rw [cell_of_row _ _ _ _ _ _ hCr.1]; rfl
          have hFr := HF.out.keep hrel.out.2.1
          obtain ⟨fb, hfb⟩ : ∃ fb, fb = fitsB g fam (mAt rest k) := ⟨_, rfl⟩
          have h103 := fits103 mb nn (mAt rest k) p u _ fam g wr hCr.2.2 hFr.1 HF1.out hm1
          rw [← hfb] at h103
          have H103 := Lib.hid h103; have HFB := Lib.hid hfb; have HFr := Lib.hid hFr; have HCr := Lib.hid hCr
          have hsr : searchL g fam (rest.drop k) bst = searchL g fam (rest.drop (k + 1)) (if fb = true then searchL g (fam ++ [mAt rest k]) (rest.drop (k + 1)) (updL (fam ++ [mAt rest k]) bst) else bst) := by
            rw [HD.out, searchL, if_neg (by simp; omega), ← hfb]
          have HSR := Lib.hid hsr
          clear h103 hfb hFr hCr hsr
          go_wp2_with fail
          refine H103.out.mono ?_
          rintro e w2 ⟨rfl, hb2⟩
          have HB2 := Lib.hid hb2
          clear hb2 a0 a1 a2
          cases fb with
          | false =>
            have hB3 := hrel.out.1.ext HB2.out
            have HB3 := Lib.hid hB3; clear hB3
            go_wp2
            go_roundw
            case rel => exact ⟨k + 1, by omega, by go_num, bst, HB3.out, hrel.out.2.1.trans (KeepBut.ext HB2.out), by rw [hrel.out.2.2, HSR.out]; rfl⟩
            case measure => simp [RowKit.intOf]; omega
          | true =>
            have cs0 := Boxed.cell (block_ext HB2.out HCr.out.2.1)
            have hw1 : IntKind.i64.wrap ((k : Int) + 1) = (k : Int) + 1 := IntWalk.i64_in _ (by omega)
            have hw2 : 0 ≤ (k : Int) + 1 := by omega
            have hw3 : ((k : Int) + 1).toNat = k + 1 := by omega
            have hw4 : (k : Int) + 1 ≤ (rest.length : Int) := by omega
            have hfc : (fam.length : Int) ≤ (cap : Int) := by omega
            have hfc2 : ((fam.length : Int)).toNat = fam.length := by omega
            obtain ⟨A, hA⟩ : ∃ A, (if cap2 = k + 1 then some (⟨b2, off2, none⟩ : Addr) else some ⟨b2, off2 + (k + 1), none⟩) = A := ⟨_, rfl⟩
            go_wp2
            have hXb := hrel.out.1.1.lt
            have hXx : X < wr.heap.size := by obtain ⟨_, _, cur, h, _⟩ := hrel.out.1; exact (Array.getElem?_eq_some_iff.1 h).1
            have hw2s := HB2.out.size
            obtain ⟨olds, holds⟩ : ∃ olds : List Value, olds = (ints fam).map (Value.int .i64) := ⟨_, rfl⟩
            have hol : olds.length = fam.length * 1 := by rw [holds]; simp [ints]
            have hnone : a = none → fam.length = 0 ∧ fam.length = 0 := fun e => by
              obtain ⟨⟨_, a', cap', e2, h1⟩, _⟩ := HFr.out
              have ha' : a = a' := (Value.slice.inj e2).1
              rcases h1 with ⟨_, h0⟩ | ⟨b', off', e1, _⟩
              · have : (ints fam).length = 0 := by rw [h0]; rfl
                rw [ints_length] at this; omega
              · rw [← ha', e] at e1; cases e1
            have hcells : ∀ Y, Ext w2 Y → ∀ b, a = some b → ∀ j u, olds[j]? = some u → Y.cell? (b.add j) = some u := fun Y hY b hb j u hj => by
              subst hb
              obtain ⟨⟨_, a', cap', e2, h1⟩, _⟩ := HFr.out
              have ha' : some b = a' := (Value.slice.inj e2).1
              rcases h1 with ⟨e1, _⟩ | ⟨b', off', e1, hc⟩
              · rw [← ha'] at e1; cases e1
              · rw [← ha'] at e1; cases e1
                rw [holds, List.getElem?_map] at hj
                obtain ⟨z, hz, rfl⟩ := Option.map_eq_some_iff.1 hj
                have := hc j (List.getElem?_eq_some_iff.1 hz).1
                rw [hz] at this
                rw [Addr.add_mid]
                exact cell_ext (HB2.out.trans hY) this
            obtain ⟨i0, hi, hz0, hz1, hz2⟩ := info_parts Try.info3
            have HOLDS := Lib.hid holds; have HOL := Lib.hid hol; have HNONE := Lib.hid hnone; have HCELLS := Lib.hid hcells; have HI := Lib.hid hi; have HZ0 := Lib.hid hz0; have HZ1 := Lib.hid hz1; have HZ2 := Lib.hid hz2; have HAA := Lib.hid hA
            have hcall : ∀ (B0 : Nat) (w5 : World) (v' : Value), w2.heap.size ≤ B0 → w5.ownsRow B0 3 1 v' (fam.length + 1) (olds ++ [.int .i64 (mAt rest k : Int)]) → Ext w2 w5 →
                Calls Try.prog 102 #[v', .slice A (rest.length - (k + 1)) (cap2 - (k + 1)), .pointer (some ⟨Bb, 0, none⟩), .pointer (some ⟨Ba, 0, none⟩), .pointer (some ⟨Bs, 0, none⟩)] w5 (PostS Bb X N (searchL g (fam ++ [mAt rest k]) (rest.drop (k + 1)) (updL (fam ++ [mAt rest k]) bst)) w5) := fun B0 w5 v' hB0 ho hE5 => by
              have hext := HB2.out.trans hE5
              refine IH.out (rest.length - (k + 1)) (by have := HM.out; omega) (rest.drop (k + 1)) (fam ++ [mAt rest k]) bst v' _ w5 (by simp) (fun x hx => HR1.out x (List.mem_of_mem_drop hx)) (fun x hx => ?_) (by simp; omega) (HCr.out.keep (KeepBut.ext (rs := [Bb, X]) hext) hBa hBs hmb) (hrel.out.1.ext hext) (rn_owned ho (by simp) (by rw [holds]; simp [ints]) (by simp; omega) (by simp; omega)) (rn_drop (HRr.out.keep (KeepBut.ext (rs := [Bb, X]) hext)) hlt hA)
              rcases List.mem_append.1 hx with hx | hx
              · exact HF1.out x hx
              · simp at hx; subst hx; exact hm1
            have HCALL := Lib.hid hcall
            clear holds hol hnone hcells hi hz0 hz1 hz2 hcall
            go_region_held3 (fun X => X.cell? ⟨Bs, 0, none⟩ = some (.func (.func 102) #[] #[.pointer (some ⟨Bb, 0, none⟩), .pointer (some ⟨Ba, 0, none⟩), .pointer (some ⟨Bs, 0, none⟩)]) ∧ Hid (True))
              (first | assumption | exact ⟨cs0, trivial⟩ | exact ⟨cell_ext (Ext.alloc (Ext.drew (Ext.refl _)) _) cs0, trivial⟩ | exact ⟨cell_ext (Ext.trans (Ext.alloc (Ext.drew (Ext.refl _)) _) (grown_none hgr)) cs0, trivial⟩ | exact ⟨hK6.cell hBs (cell_ext (Ext.trans (Ext.alloc (Ext.drew (Ext.refl _)) _) (grown_none hgr)) cs0), trivial⟩)
              (first | (refine step_append_grows rfl (.tmp 48) (.tmp 50) 22 rfl 3 i0 (.int .i64 0) 1 8 Try.underlying22 HI.out HZ0.out HZ1.out HZ2.out rfl (by decide) a fam.length fam.length olds rfl HNONE.out HOL.out (HCELLS.out _ (Ext.alloc (Ext.drew (Ext.refl _)) _)) ⟨w2.heap.size, 0, none⟩ 1 1 [.int .i64 (mAt rest k : Int)] rfl rfl (by intro j u hj; cases j with | zero => (simp at hj; subst hj; rw [Addr.add_zero']; exact World.cell?_alloc_at _ _ _ _ rfl) | succ j => simp at hj) (by intro u hu; simp at hu; subst hu; rfl) (by omega) (by unfold maxLen; omega) (by omega) ?_; intro v' w5 hown hgr) | (go_at_call 102; refine (HCALL.out _ w5 v' (by simp [World.drew]) hown (Ext.trans (Ext.alloc (Ext.drew (Ext.refl _)) _) (grown_none hgr))).mono ?_; rintro e w6 ⟨rfl, hB6, hK6⟩))
            have hE5 : Ext w2 w5 := Ext.trans (Ext.alloc (Ext.drew (Ext.refl _)) _) (grown_none hgr)
            have hK : KeepBut [Bb, X] W w6 := (hrel.out.2.1.trans (KeepBut.ext (HB2.out.trans hE5))).trans hK6
            have HB6 := Lib.hid hB6; have HK6 := Lib.hid hK
            clear hB6 hK6 hK hE5 hgr hown hA hw1 hw3
            go_wp2
            go_roundw
            case rel => exact ⟨k + 1, by omega, by go_num, _, HB6.out, HK6.out, by rw [hrel.out.2.2, HSR.out]; rfl⟩
            case measure => simp [RowKit.intOf]; omega
      · obtain rfl : k = rest.length := by omega
        have hs : searchL g fam rest (updL fam best) = bst := by
          rw [hrel.out.2.2, List.drop_length, searchL]
        have HS := Lib.hid hs; clear hs
        go_wp2
        go_end0
        refine ⟨rfl, ?_, hrel.out.2.1⟩
        rw [HS.out]; exact hrel.out.1
end Go.Proofs.Ytlgdnbpboonhdaa
namespace Go.Proofs.Ytlgdnbpboonhdaa
open Go.RowKit Go.Shelf Go.Maps
set_option linter.unusedVariables false
attribute [local go_sem] Oper.semAt_some
theorem make22 (n : Nat) (h : n ≤ 100000) (w : World) : (Instr.makeSlice 22 (.int .i64 0) (.int .i64 (n : Int))).run Try.prog w = .ok (.slice (some ⟨w.heap.size, 0, none⟩) 0 n) (w.alloc (.cells (madeCells #[.int .i64 0] n) 3)) :=
  run_make_room 22 3 (.int .i64 0) 8 Try.underlying22 Try.info3 rfl .i64 .i64 n (by omega) (by omega) w
set_option maxRecDepth 100000 in
theorem greatest80 (mb nn : Nat) (p : Option Addr) (u : Value) (fi : List Nat) (g : Nat × Nat → Option Nat) (w : World) (hm : ClMap w mb nn g) (hu : Reads w u (ints fi)) (hcap : CapOk u) (hf : ∀ m ∈ fi, m < 1000) (hl : fi.length ≤ 12) :
    Calls Try.prog 80 #[.agg #[.pointer p, u, .map (some mb)]] w fun e w' => ∃ v, e = .returned v ∧ (Reads w' v (ints (searchL g [] fi [])) ∧ CapOk v) ∧ Ext w w' := by
  obtain ⟨hl2, a, cap, rfl⟩ := hu.shape
  rw [ints_length] at hl2 hu hcap ⊢
  have hmk := make22 fi.length (by omega)
  have HM := Lib.hid hm; have HU := Lib.hid hu; have HCAP := Lib.hid hcap; have HF := Lib.hid hf
  clear hm hu hcap hf
  go_enter Try.func80, Try.ntmps80
  go_wp2_with fail
  have hE : Ext w ((((w.alloc (.cells #[.pointer p, .slice a fi.length cap, .map (some mb)] 93)).alloc (.cells (madeCells #[.int .i64 0] fi.length) 3)).alloc (.cells #[.slice (some ⟨w.heap.size + 1, 0, none⟩) 0 fi.length] 22)).alloc
      (.cells #[.func (.func 102) #[] #[.pointer (some ⟨w.heap.size + 1 + 1, 0, none⟩), .pointer (some ⟨w.heap.size, 0, none⟩), .pointer (some ⟨w.heap.size + 1 + 1 + 1, 0, none⟩)]] 110)) := ((((Ext.refl w).alloc _).alloc _).alloc _).alloc _
  have hA := block_ext ((Ext.refl _).alloc (.cells #[.func (.func 102) #[] #[.pointer (some ⟨w.heap.size + 1 + 1, 0, none⟩), .pointer (some ⟨w.heap.size, 0, none⟩), .pointer (some ⟨w.heap.size + 1 + 1 + 1, 0, none⟩)]] 110)) (block_ext ((Ext.refl _).alloc (.cells #[.slice (some ⟨w.heap.size + 1, 0, none⟩) 0 fi.length] 22)) (block_ext ((Ext.refl _).alloc (.cells (madeCells #[.int .i64 0] fi.length) 3)) (heap_alloc_new w (.cells #[.pointer p, .slice a fi.length cap, .map (some mb)] 93))))
  have hX := block_ext ((Ext.refl _).alloc (.cells #[.func (.func 102) #[] #[.pointer (some ⟨w.heap.size + 1 + 1, 0, none⟩), .pointer (some ⟨w.heap.size, 0, none⟩), .pointer (some ⟨w.heap.size + 1 + 1 + 1, 0, none⟩)]] 110)) (block_ext ((Ext.refl _).alloc (.cells #[.slice (some ⟨w.heap.size + 1, 0, none⟩) 0 fi.length] 22)) (heap_alloc_new (w.alloc (.cells #[.pointer p, .slice a fi.length cap, .map (some mb)] 93)) (.cells (madeCells #[.int .i64 0] fi.length) 3)))
  have hB := Boxed.alloc (Boxed.new ((w.alloc (.cells #[.pointer p, .slice a fi.length cap, .map (some mb)] 93)).alloc (.cells (madeCells #[.int .i64 0] fi.length) 3)) 22 (.slice (some ⟨w.heap.size + 1, 0, none⟩) 0 fi.length)) (.cells #[.func (.func 102) #[] #[.pointer (some ⟨w.heap.size + 1 + 1, 0, none⟩), .pointer (some ⟨w.heap.size, 0, none⟩), .pointer (some ⟨w.heap.size + 1 + 1 + 1, 0, none⟩)]] 110)
  have hS := Boxed.new (((w.alloc (.cells #[.pointer p, .slice a fi.length cap, .map (some mb)] 93)).alloc (.cells (madeCells #[.int .i64 0] fi.length) 3)).alloc (.cells #[.slice (some ⟨w.heap.size + 1, 0, none⟩) 0 fi.length] 22)) 110 (.func (.func 102) #[] #[.pointer (some ⟨w.heap.size + 1 + 1, 0, none⟩), .pointer (some ⟨w.heap.size, 0, none⟩), .pointer (some ⟨w.heap.size + 1 + 1 + 1, 0, none⟩)])
  simp only [World.size_alloc] at hX hB hS
  generalize (((w.alloc (.cells #[.pointer p, .slice a fi.length cap, .map (some mb)] 93)).alloc (.cells (madeCells #[.int .i64 0] fi.length) 3)).alloc (.cells #[.slice (some ⟨w.heap.size + 1, 0, none⟩) 0 fi.length] 22)).alloc
      (.cells #[.func (.func 102) #[] #[.pointer (some ⟨w.heap.size + 1 + 1, 0, none⟩), .pointer (some ⟨w.heap.size, 0, none⟩), .pointer (some ⟨w.heap.size + 1 + 1 + 1, 0, none⟩)]] 110) = W at *
  have hctx : Ctx W (w.heap.size + 1 + 1) w.heap.size (w.heap.size + 1 + 1 + 1) mb nn p (.slice a fi.length cap) g := ⟨hA, hS, HM.out.ext hE⟩
  have hbest : BestAt W (w.heap.size + 1 + 1) (w.heap.size + 1) fi.length [] := ⟨hB, by simp, (madeCells #[.int .i64 0] fi.length).toList, by simpa using hX, by simp [size_madeCells], by simp [ints]⟩
  have hrs : ∀ b, b < w.heap.size → b ∉ [w.heap.size + 1 + 1, w.heap.size + 1] := fun b hb hm => by simp at hm; omega
  have hrn : RN [w.heap.size + 1 + 1, w.heap.size + 1] W (.slice a fi.length cap) fi := ⟨HU.out.ext hE, HCAP.out, fun b off n c e hne => by
    obtain ⟨b', off', e', -, hc⟩ := HU.out.atN (k := 0) (m := fi[0]'(List.length_pos_iff.2 hne)) (by simp)
    have e1 := (Value.slice.inj e).1
    rw [e'] at e1
    cases e1
    exact hrs _ (lt_of_cell hc)⟩
  have hnil : RN [w.heap.size + 1 + 1, w.heap.size + 1] W (.slice none 0 0) [] := ⟨Reads.nil _, ⟨_, _, _, rfl, Nat.le_refl _⟩, fun b off n c e => by cases e⟩
  have H := search102 (w.heap.size + 1 + 1) (w.heap.size + 1) fi.length w.heap.size (w.heap.size + 1 + 1 + 1) mb nn p (.slice a fi.length cap) g (by omega) (by simp; omega) (by simp; omega) (hrs _ HM.out.lt) (by omega) fi.length fi [] [] _ _ W rfl HF.out (by simp) (by simp) hctx hbest hnil hrn
  have HH := Lib.hid H; have HE := Lib.hid hE
  clear H hctx hbest hrn hnil hrs hA hX hB hS hE hmk
  refine HH.out.mono ?_
  rintro e w5 ⟨rfl, hb5, hk5⟩
  have hres : updL [] [] = [] := rfl
  rw [hres] at hb5
  have c5 := hb5.1.cell
  have hN5 := hb5.2.1
  have HB5 := Lib.hid hb5
  have hE5 : Ext w w5 := ⟨hk5.os.trans HE.out.os, hk5.tape.trans HE.out.tape, hk5.output.trans HE.out.output, Nat.le_trans HE.out.size hk5.size, fun k hk => (hk5.block k (Nat.lt_of_lt_of_le hk HE.out.size) (fun hm => by simp at hm; omega)).trans (HE.out.block k hk)⟩
  have HE5 := Lib.hid hE5
  clear hb5 hk5 hE5 hres
  go_wp2
  go_ret
  exact ⟨_, rfl, ⟨HB5.out.reads (by omega), ⟨_, _, _, rfl, hN5⟩⟩, HE5.out⟩
end Go.Proofs.Ytlgdnbpboonhdaa
namespace Go.Proofs.Ytlgdnbpboonhdaa
open Go.RowKit Go.Shelf Go.Maps
set_option linter.unusedVariables false
attribute [local go_sem] Oper.semAt_some
def familyL (ms : List Nat) (L : Nat) (qs : List Nat) : List Nat := searchL (askF ms L qs) [] (freeIx ms L qs) []
theorem freeIx_len (ms : List Nat) (L : Nat) (qs : List Nat) : (freeIx ms L qs).length ≤ qs.length := pickL_len _ _ _
theorem freeIx_lt (ms : List Nat) (L : Nat) (qs : List Nat) : ∀ m ∈ freeIx ms L qs, m < qs.length := fun m hm => by
  have := (List.mem_filter.1 hm).1
  rw [List.mem_range'_1] at this
  omega
set_option maxRecDepth 100000 in
theorem family37_ok (S L : Nat) (ms qs : List Nat) (v u : Value) (w : World) (hv : Valid S L ms) (hr : Reads w v (ints ms)) (hu : Reads w u (ints qs)) (hq : Valid S L qs) :
    Calls Try.prog 37 #[.agg #[.int .i64 (S : Int), .int .i64 (L : Int), v], u] w fun e w' => ∃ u', e = .returned (.tuple #[u', .int .i64 0]) ∧ (Reads w' u' (ints (familyL ms L qs)) ∧ CapOk u') ∧ Ext w w' := by
  obtain ⟨hl, a, cap, rfl⟩ := hr.shape
  obtain ⟨hl2, a2, cap2, rfl⟩ := hu.shape
  have E0 := (Ext.refl w).alloc (.cells #[.int .i64 (S : Int), .int .i64 (L : Int), .slice a (ints ms).length cap] 24)
  have H := Lib.hid (ask79_ok S L ms qs _ _ _ hv (hr.ext E0) (hu.ext E0) hq)
  have HE := Lib.hid E0
  have hq12 := hq.2.2.2.1
  clear hv hr hu hq E0
  go_enter Try.func37, Try.ntmps37
  go_wp2_with fail
  refine H.out.mono ?_
  rintro e w2 ⟨r2, mb, u', rfl, ⟨hru, hcap⟩, hcm, hb⟩
  obtain ⟨hl3, a3, cap3, rfl⟩ := hru.shape
  have hA := (Ext.refl w2).alloc (.cells #[.pointer (some ⟨r2, 0, none⟩), .slice a3 (ints (freeIx ms L qs)).length cap3, .map (some mb)] 93)
  have HG := Lib.hid (greatest80 mb 200 (some ⟨r2, 0, none⟩) _ (freeIx ms L qs) (askF ms L qs) _ (hcm.ext hA) (hru.ext hA) hcap (fun m hm => by have := freeIx_lt ms L qs m hm; omega) (by have := freeIx_len ms L qs; omega))
  have HE2 := Lib.hid ((HE.out.trans hb).trans hA)
  clear hru hcap hcm hb hA
  go_wp2_with fail
  refine HG.out.mono ?_
  rintro e w3 ⟨v3, rfl, hres, hb3⟩
  have HRES := Lib.hid hres; have HE3 := Lib.hid (HE2.out.trans hb3)
  clear hres hb3
  go_wp2
  go_ret2
  exact ⟨_, rfl, HRES.out, HE3.out⟩
theorem family37_of (S L c : Int) (xs ys : List Int) (v u : Value) (w : World) (hr : Reads w v xs) (hu : Reads w u ys) (hc : c ≠ 0)
    (H : ∀ W, Ext w W → Calls Try.prog 79 #[.agg #[.int .i64 S, .int .i64 L, v], u] W fun e w' => e = .returned (.tuple #[.agg #[.pointer none, .slice none 0 0, .map none], .int .i64 c]) ∧ Ext W w') :
    Calls Try.prog 37 #[.agg #[.int .i64 S, .int .i64 L, v], u] w fun e w' => e = .returned (.tuple #[.slice none 0 0, .int .i64 c]) ∧ Ext w w' := by
  obtain ⟨hl, a, cap, rfl⟩ := hr.shape
  obtain ⟨hl2, a2, cap2, rfl⟩ := hu.shape
  have HE := Lib.hid ((Ext.refl w).alloc (.cells #[.int .i64 S, .int .i64 L, .slice a xs.length cap] 24))
  have HH := Lib.hid (H _ HE.out)
  have hd : (c != 0) = true := by simpa using hc
  clear hr hu hc H
  go_enter Try.func37, Try.ntmps37
  go_wp2_with fail
  refine HH.out.mono ?_
  rintro e w2 ⟨rfl, hb⟩
  have HE2 := Lib.hid (HE.out.trans hb)
  clear hb
  go_wp2
  go_ret2
  exact ⟨rfl, HE2.out.alloc _⟩
theorem checkFam39_of (S L c : Int) (xs ys zs : List Int) (v u t : Value) (w : World) (hr : Reads w v xs) (hu : Reads w u ys) (ht : Reads w t zs) (hc : c ≠ 0)
    (H : ∀ W, Ext w W → Calls Try.prog 79 #[.agg #[.int .i64 S, .int .i64 L, v], u] W fun e w' => e = .returned (.tuple #[.agg #[.pointer none, .slice none 0 0, .map none], .int .i64 c]) ∧ Ext W w') :
    Calls Try.prog 39 #[.agg #[.int .i64 S, .int .i64 L, v], u, t] w fun e w' => e = .returned (.int .i64 c) ∧ Ext w w' := by
  obtain ⟨hl, a, cap, rfl⟩ := hr.shape
  obtain ⟨hl2, a2, cap2, rfl⟩ := hu.shape
  obtain ⟨hl3, a3, cap3, rfl⟩ := ht.shape
  have HE := Lib.hid ((Ext.refl w).alloc (.cells #[.int .i64 S, .int .i64 L, .slice a xs.length cap] 24))
  have HH := Lib.hid (H _ HE.out)
  have hd : (c != 0) = true := by simpa using hc
  clear hr hu hc H
  go_enter Try.func39, Try.ntmps39
  go_wp2_with fail
  refine HH.out.mono ?_
  rintro e w2 ⟨rfl, hb⟩
  have HE2 := Lib.hid (HE.out.trans hb)
  clear hb
  go_wp2
  go_ret
  exact ⟨rfl, HE2.out.alloc _⟩
/-- What CheckFamily answers where office and marks are in order. -/
def checkFam (ms : List Nat) (L : Nat) (qs : List Nat) (fam : List Int) : Int :=
  if (inR 0 ((qs.length : Int) - 1) fam && inc fam) = true then (if famB (freeIx ms L qs) (askF ms L qs) (fam.map Int.toNat) = true then 0 else 17) else 16
set_option maxRecDepth 100000 in
theorem checkFam39_ok (S L : Nat) (ms qs : List Nat) (fam : List Int) (v u t : Value) (w : World) (hv : Valid S L ms) (hr : Reads w v (ints ms)) (hu : Reads w u (ints qs)) (hq : Valid S L qs) (ht : Reads w t fam) (hcap : CapOk t) :
    Calls Try.prog 39 #[.agg #[.int .i64 (S : Int), .int .i64 (L : Int), v], u, t] w fun e w' => e = .returned (.int .i64 (checkFam ms L qs fam)) ∧ Ext w w' := by
  obtain ⟨hl, a, cap, rfl⟩ := hr.shape
  obtain ⟨hl2, a2, cap2, rfl⟩ := hu.shape
  obtain ⟨hl3, a3, cap3, rfl⟩ := ht.shape
  have E0 := (Ext.refl w).alloc (.cells #[.int .i64 (S : Int), .int .i64 (L : Int), .slice a (ints ms).length cap] 24)
  have H := Lib.hid (ask79_ok S L ms qs _ _ _ hv (hr.ext E0) (hu.ext E0) hq)
  have HE := Lib.hid E0
  have hq12 := hq.2.2.2.1
  obtain ⟨n, hn⟩ : ∃ n, n = qs.length := ⟨_, rfl⟩
  rw [ints_length qs] at H ⊢
  rw [← hn] at H hq12 ⊢
  have HN := Lib.hid hn; have HT := Lib.hid ht; have HC := Lib.hid hcap
  clear hv hr hu hq E0 hn ht hcap
  go_enter Try.func39, Try.ntmps39
  go_wp2_with fail
  refine H.out.mono ?_
  rintro e w2 ⟨r2, mb, u', rfl, ⟨hru, hcap⟩, hcm, hb⟩
  obtain ⟨hl4, a4, cap4, rfl⟩ := hru.shape
  have hA := (Ext.refl w2).alloc (.cells #[.pointer (some ⟨r2, 0, none⟩), .slice a4 (ints (freeIx ms L qs)).length cap4, .map (some mb)] 93)
  have HE2 := Lib.hid ((HE.out.trans hb).trans hA)
  have HCM := Lib.hid (hcm.ext hA); have HRU := Lib.hid (hru.ext hA)
  clear hru hcap hcm hb hA
  obtain ⟨b1, hb1⟩ : ∃ b1, b1 = inR 0 ((n : Int) - 1) fam := ⟨_, rfl⟩
  have hw57 := within_any 0 ((n : Int) - 1) (.slice a3 fam.length cap3) fam _ (HT.out.ext HE2.out)
  rw [← hb1] at hw57
  have H57 := Lib.hid hw57; have HB1 := Lib.hid hb1
  clear hw57 hb1
  go_wp2_with fail
  refine H57.out.mono ?_
  rintro e w3 ⟨rfl, rfl⟩
  have hval : checkFam ms L qs fam = if (b1 && inc fam) = true then (if famB (freeIx ms L qs) (askF ms L qs) (fam.map Int.toNat) = true then 0 else 17) else 16 := by
    unfold checkFam
    rw [HB1.out, HN.out]
  have HV := Lib.hid hval; clear hval
  cases b1 with
  | false =>
    go_wp2
    go_ret
    rw [HV.out]
    exact ⟨rfl, HE2.out⟩
  | true =>
    obtain ⟨b2, hb2⟩ : ∃ b2, b2 = inc fam := ⟨_, rfl⟩
    have hw85 := inc85_any (.slice a3 fam.length cap3) fam _ (HT.out.ext HE2.out)
    rw [← hb2] at hw85
    have H85 := Lib.hid hw85; have HB2 := Lib.hid hb2
    clear hw85 hb2
    go_wp2_with fail
    refine H85.out.mono ?_
    rintro e w4 ⟨rfl, hb4⟩
    have HX4 := Lib.hid hb4; have HE4 := Lib.hid (HE2.out.trans hb4)
    have hBk := block_ext hb4 (heap_alloc_new w2 (.cells #[.pointer (some ⟨r2, 0, none⟩), .slice a4 (ints (freeIx ms L qs)).length cap4, .map (some mb)] 93))
    have d0 : w4.cell? ⟨w2.heap.size, 0, none⟩ = some (.pointer (some ⟨r2, 0, none⟩)) := by rw [cell_of_row _ _ _ _ _ _ hBk]; rfl
    have d1 : w4.cell? ⟨w2.heap.size, 1, none⟩ = some (.slice a4 (ints (freeIx ms L qs)).length cap4) := by rw [cell_of_row _ _ _ _ _ _ hBk]; rfl
    have d2 : w4.cell? ⟨w2.heap.size, 2, none⟩ = some (.map (some mb)) := by rw [cell_of_row _ _ _ _ _ _ hBk]; rfl
    clear hb4 hBk
    cases b2 with
    | false =>
      go_wp2
      go_ret
      rw [HV.out, ← HB2.out]
      exact ⟨rfl, HE4.out⟩
    | true =>
      have hnat : fam = ints (fam.map Int.toNat) := ints_toNat fam fun x hx => by
        have := List.all_eq_true.1 HB1.out.symm x hx
        simp at this; omega
      have h86 := isFamily86 mb 200 (some ⟨r2, 0, none⟩) (.slice a4 (ints (freeIx ms L qs)).length cap4) (.slice a3 fam.length cap3) (freeIx ms L qs) (fam.map Int.toNat) (askF ms L qs) w4 (HCM.out.ext HX4.out) (HRU.out.ext HX4.out) (by rw [← hnat]; exact HT.out.ext HE4.out) HC.out (fun m hm => by
        obtain ⟨x, hx, rfl⟩ := List.mem_map.1 hm
        have := List.all_eq_true.1 HB1.out.symm x hx
        simp at this; omega)
      obtain ⟨b3, hb3⟩ : ∃ b3, b3 = famB (freeIx ms L qs) (askF ms L qs) (fam.map Int.toNat) := ⟨_, rfl⟩
      rw [← hb3] at h86
      have H86 := Lib.hid h86; have HB3 := Lib.hid hb3
      clear h86 hb3 hnat
      go_wp2_with fail
      refine H86.out.mono ?_
      rintro e w5 ⟨rfl, hb5⟩
      have HE5 := Lib.hid (HE4.out.trans hb5)
      clear hb5
      cases b3 with
      | false =>
        go_wp2
        go_ret
        rw [HV.out, ← HB2.out, ← HB3.out]
        exact ⟨rfl, HE5.out⟩
      | true =>
        go_wp2
        go_ret
        rw [HV.out, ← HB2.out, ← HB3.out]
        exact ⟨rfl, HE5.out⟩
end Go.Proofs.Ytlgdnbpboonhdaa
