/- Sorting and compacting a row of texts: the library's contracts at this program. -/
import Derived.Test.YtdlbghjclcdfmabDoorShelf4
import Derived.Test.YtdlbghjclcdfmabDoorPickW
import Derived.Test.YtdlbghjclcdfmabDoorCpt
import Derived.Test.YtdlbghjclcdfmabDoorComp2W
import Derived.Lib.RowBridge
import Derived.Lib.SortBridge
namespace Go.Proofs.YtdlbghjclcdfmabDoor
set_option linter.unusedVariables false
set_option linter.unusedSimpArgs false
open Go.RowKit Go.Shelf Go.Lib Go.Sort

/-- A text of bytes, not too long. -/
structure Nmz where
  v : List Int
  h : Ran v ∧ v.length ≤ 140737488355328
theorem Nmz.same {x y : Nmz} (e : x.v = y.v) : x = y := by cases x; cases y; cases e; rfl
instance : Inhabited Nmz := ⟨⟨[], Ran.nil, by simp⟩⟩
def encZ (x : Nmz) : Value := .string (strOfNums x.1)
def cfZ (x y : Nmz) : Int := cmpS x.1 y.1
theorem ltZ (x y : Nmz) : ltOf cfZ x y = decide (cmpS x.1 y.1 < 0) := rfl
theorem swoZ : SWO (ltOf cfZ) where
  irrefl x := by rw [ltZ, cmpS_self]; rfl
  trans x y z h1 h2 := by
    rw [ltZ, decide_eq_true_eq] at *
    exact cmpS_lt_trans h1 (by omega)
  ntrans x y z h1 h2 := by
    rw [ltZ, decide_eq_false_iff_not] at *
    have a1 := cmpS_swap x.1 y.1
    have a2 := cmpS_swap y.1 z.1
    have a3 := cmpS_swap x.1 z.1
    have := cmpS_trans (a := z.1) (b := y.1) (c := x.1) (by omega) (by omega)
    omega
theorem totZ (x y : Nmz) (h1 : ltOf cfZ x y = false) (h2 : ltOf cfZ y x = false) : x = y := by
  rw [ltZ, decide_eq_false_iff_not] at *
  have := cmpS_swap x.1 y.1
  exact Nmz.same (cmpS_zero (show cmpS x.1 y.1 = 0 by omega))
def zsOf (L : List (List Int)) (h : Tx L) : List Nmz := L.attach.map fun x => ⟨x.1, h x.1 x.2⟩
theorem zsOf_map (L : List (List Int)) (h : Tx L) : (zsOf L h).map (·.1) = L := by
  unfold zsOf
  rw [List.map_map]
  have : ((fun x : Nmz => x.1) ∘ fun x : {x // x ∈ L} => (⟨x.1, h x.1 x.2⟩ : Nmz)) = fun x => x.1 := rfl
  rw [this]
  exact List.attach_map_subtype_val L
theorem zsOf_len (L : List (List Int)) (h : Tx L) : (zsOf L h).length = L.length := by simp [zsOf]
theorem zsOf_enc (ys : List Nmz) : ys.map encZ = St (ys.map (·.1)) := by simp [St, encZ, List.map_map, Function.comp_def]
theorem holdsZ {w : World} {base g n c : Nat} {L : List (List Int)} (ho : Own w base 9 (some ⟨g, 0, none⟩) n c (St L)) (h : Tx L) : Holds encZ w g 0 (zsOf L h).toArray := by
  intro j hj
  have hl := ho.lenS
  have hj' : j < L.length := by simpa [zsOf] using hj
  refine ⟨?_, by rw [Nat.zero_add]; exact World.ownsRow.frozenAt ho j⟩
  rw [Nat.zero_add, World.ownsRow.cellAt ho j (by omega)]
  have e1 : ((zsOf L h).toArray[j]!).1 = L[j] := by
    rw [getElem!_pos (zsOf L h).toArray j hj]
    simp [zsOf]
  simp only [St, List.getElem?_map, List.getElem?_eq_getElem hj', Option.map_some, encZ, e1]
theorem cmpReads13 (blk off size : Nat) (w : World) : CmpReads Tryd.prog 9 #[] encZ cfZ blk off size w := fun _ _ _ _ x y => compare_any x.1 y.1 _ x.2.1 y.2.1 x.2.2 y.2.2

theorem sort_any : SortC := by
  intro g n c base L w ho hT hn0 hn
  have hl := ho.lenS
  have hH := holdsZ ho hT
  have hlt := (ho.lies g rfl).2
  have hbg := (ho.lies g rfl).1
  have hsz : (zsOf L hT).toArray.size = n := by simp [zsOf_len, hl]
  have eg : ∀ args w, (callFunc 9 args).run Tryd.prog w = .ok (.enter 9 args) w := enters_of Tryd.func9 (by kernel_rfl) rfl
  have hS := Any.slices_SortFunc_total Tryd.sortL encZ (fun _ => rfl) cfZ swoZ 9 #[] g 0 c (zsOf L hT).toArray w eg (cmpReads13 g 0 _ w).lays hH hlt (by rw [hsz]; omega) totZ
  change Calls Tryd.prog 24 _ _ _ at hS
  rw [hsz] at hS
  refine hS.mono fun e w' ⟨he, q, os, hw⟩ => ⟨he, ((zsOf L hT).mergeSort fun x y => !ltOf cfZ y x).map (·.1), ?_⟩
  have hlen : ((zsOf L hT).mergeSort fun x y => !ltOf cfZ y x).length = n := by rw [List.length_mergeSort, zsOf_len, hl]
  have hw2 : w' = grow ((w.drewN q).setCells g 0 (St (((zsOf L hT).mergeSort fun x y => !ltOf cfZ y x).map (·.1)))) os := by
    rw [hw, ← zsOf_enc]
    exact Lib.sorted_world encZ w g 0 q (zsOf L hT).toArray _ os hH (by rw [hlen, hsz])
  have hu : (St (((zsOf L hT).mergeSort fun x y => !ltOf cfZ y x).map (·.1))).length = n := by rw [St_length, List.length_map, hlen]
  refine ⟨?_, ?_, fun x => ?_, ?_⟩
  · rw [hw2]; exact ((ho.drewN q).setCells_all hu).grow_ os
  · unfold Wrt
    rw [List.pairwise_map]
    refine (List.pairwise_mergeSort (le := fun x y : Nmz => !ltOf cfZ y x) ?_ ?_ (zsOf L hT)).imp ?_
    · intro a b d h1 h2
      simp only [ltZ, Bool.not_eq_true', decide_eq_false_iff_not] at *
      have a1 := cmpS_swap a.1 b.1
      have a2 := cmpS_swap b.1 d.1
      have a3 := cmpS_swap a.1 d.1
      have := cmpS_trans (a := a.1) (b := b.1) (c := d.1) (by omega) (by omega)
      omega
    · intro a b
      simp only [ltZ, Bool.or_eq_true, Bool.not_eq_true', decide_eq_false_iff_not]
      have a1 := cmpS_swap a.1 b.1
      omega
    · intro a b h
      simp only [ltZ, Bool.not_eq_true', decide_eq_false_iff_not] at h
      have a1 := cmpS_swap a.1 b.1
      omega
  · have hp := (List.mergeSort_perm (zsOf L hT) fun x y => !ltOf cfZ y x).map (·.1)
    rw [zsOf_map] at hp
    exact hp.mem_iff
  · rw [hw2]; exact below_sorted ho (by omega) hbg (by omega) q os
theorem sort_none : SortN := fun A c w =>
  (AnyF.slices_SortFunc_none (P := Tryd.prog) (ρ := Tryd.sortL_ren) { Tryd.sortL with } A c (.func (.func 9) #[] #[]) w).mono fun e w' ⟨h1, h2⟩ => ⟨h1, h2.symm⟩
theorem comp_none : CompN := fun A c w => (Any.slices_Compact_string_empty Tryd.lays194 A c w).mono fun e w' ⟨h1, h2⟩ => ⟨h1, h2.symm⟩
theorem Own.pre {w : World} {base : Nat} {e : TypeId} {A : Option Addr} {n c m : Nat} {vs : List Value} (h : Own w base e A n c vs) (hm : m ≤ n) : Own w base e A m c (vs.take m) := by
  have hl : vs.length = n := by have := h.1; simpa using this
  rcases h.2 with ⟨hv, h0⟩ | ⟨g, cap, cur, hv, hg, hh, hnc, hcm, hcs, htake⟩
  · have hA : A = none := by injection hv
    have hc : c = 0 := by injection hv
    obtain rfl : m = 0 := by omega
    subst hA; subst hc
    simpa using (Own.nil_ : Own w base e none 0 0 [])
  · have hA : A = some ⟨g, 0, none⟩ := by injection hv
    have hc : c = cap := by injection hv
    subst hA; subst hc
    refine ⟨by rw [List.length_take]; omega, .inr ⟨g, c, cur, rfl, hg, hh, by omega, hcm, hcs, ?_⟩⟩
    rw [← htake, List.take_take]
    congr 1; omega
theorem Own.capS {w : World} {base g n c : Nat} {e : TypeId} {vs : List Value} (h : Own w base e (some ⟨g, 0, none⟩) n c vs) : n ≤ c := by
  rcases h.2 with ⟨hv, _⟩ | ⟨g', cap, cur, hv, _, _, hnc, _⟩
  · injection hv with h1; cases h1
  · injection hv with _ _ h3
    omega
theorem comp_any : CompC := by
  intro g n c base L w ho hT hW hn0 hn
  have hl := ho.lenS
  have hlt := (ho.lies g rfl).2
  have hbg := (ho.lies g rfl).1
  have hcell : ∀ i, i < n → w.cell? ⟨g, 0 + i, none⟩ = some (.string (strOfNums (L.getD i []))) := fun i hi => by
    rw [Nat.zero_add, World.ownsRow.cellAt ho i (by omega)]
    simp [St, List.getElem?_eq_getElem (show i < L.length by omega), List.getD]
  have hS := Any.slices_Compact_string_cells Tryd.lays194 g 0 n c (fun i => strOfNums (L.getD i [])) w (by omega) ho.capS hcell (fun j hj => by rw [Nat.zero_add]; exact World.ownsRow.frozenAt ho j)
  change Calls Tryd.prog 25 _ _ _ at hS
  have hstr : strsOf (fun i => strOfNums (L.getD i [])) n = L.map fun l => (strOfNums l).data.toList := by
    unfold strsOf
    apply List.ext_getElem
    · simp [hl]
    · intro i h1 h2
      have hi : i < L.length := by simpa using h2
      simp [List.getD, List.getElem?_eq_getElem hi]
  rw [hstr] at hS
  have hnm : (L.map fun l => (strOfNums l).data.toList).map nm = L := by
    rw [List.map_map]
    exact (List.map_congr_left fun l hl => str_nm (hT l hl).1).trans (List.map_id _)
  obtain ⟨hs, hm⟩ := compact_srt (zs := L.map fun l => (strOfNums l).data.toList) (by rw [hnm]; exact hW)
  have hlen : (compact (L.map fun l => (strOfNums l).data.toList)).length ≤ n := by
    unfold compact compactUpTo
    rw [List.length_map]
    exact Nat.le_trans (List.length_filter_le _ _) (by simp [hl])
  have hmem : ∀ x, x ∈ (compact (L.map fun l => (strOfNums l).data.toList)).map nm ↔ x ∈ L := fun x => by
    rw [List.mem_map]
    constructor
    · rintro ⟨b, hb, rfl⟩
      have := List.mem_map_of_mem (f := nm) ((hm b).1 hb)
      rwa [hnm] at this
    · intro hx
      refine ⟨(strOfNums x).data.toList, (hm _).2 (List.mem_map_of_mem (f := fun l => (strOfNums l).data.toList) hx), str_nm (hT x hx).1⟩
  generalize compact (L.map fun l => (strOfNums l).data.toList) = K at *
  refine hS.mono fun e w' ⟨he, q, hw⟩ => ⟨K.map nm, K.length, he, ?_, hs, hmem, ?_⟩
  · have hu : ((K ++ List.replicate (n - K.length) []).map encStr).length = n := by simp; omega
    have h1 := (ho.drewN q).setCells_all hu
    rw [hw]
    have h2 := h1.pre (m := K.length) hlen
    have e1 : ((K ++ List.replicate (n - K.length) []).map encStr).take K.length = St (K.map nm) := by
      rw [List.map_append, List.take_left' (by simp)]
      simp [St, encStr, nm_str, List.map_map, Function.comp_def]
    rwa [e1] at h2
  · have hu : ((K ++ List.replicate (n - K.length) []).map encStr).length = n := by simp; omega
    rw [hw]
    have := below_sorted ho (us := (K ++ List.replicate (n - K.length) []).map encStr) (B := base) (by omega) hbg (by omega) q #[]
    rwa [grow_empty] at this
theorem pick_any (p : List Int) (A : Option Addr) (n c : Nat) (ns : List (List Int)) (w : World) (hp : Ran p) (hlp : p.length ≤ 140737488355328) (hrd : Rd w A n (St ns)) (htx : Tx ns) (hn : n ≤ 1000000) :
    Calls Tryd.prog 8 #[.string (strOfNums p), .slice A n c] w fun e w' => ∃ (A' : Option Addr) (c' m : Nat) (M : List (List Int)), e = .returned (.slice A' m c') ∧ Own w' w.heap.size 9 A' m c' (St M) ∧ Srt M ∧ (∀ x, x ∈ M ↔ x ∈ ns ∧ mt p x = true) ∧ Below w.heap.size w w' :=
  pick_of sort_any sort_none comp_any comp_none p A n c ns w hp hlp hrd htx hn
end Go.Proofs.YtdlbghjclcdfmabDoor
