/- The reference's things: a list by rising names. -/
import Derived.Test.YtlphlogliphhdaaDoorWide
import Derived.Test.YtlphlogliphhdaaDoorListV
namespace Go.Proofs.YtlphlogliphhdaaDoor
set_option linter.unusedVariables false
set_option linter.unusedSimpArgs false
open Go.RowKit Go.Maps

/-- Names and what lies beside them, cell by cell. -/
def fl : Things → List Value → List Value
  | [], _ => []
  | _ :: _, [] => []
  | q :: R, v :: vs => .string q.1 :: v :: fl R vs
theorem fl_len : ∀ {R : Things} {vs : List Value}, vs.length = R.length → (fl R vs).length = R.length * 2
  | [], _, _ => rfl
  | _ :: _, [], h => by simp at h
  | q :: R, v :: vs, h => by simp only [fl, List.length_cons]; rw [fl_len (by simpa using h)]; omega
theorem fl_app : ∀ {R M : Things} {vs us : List Value}, vs.length = R.length → fl (R ++ M) (vs ++ us) = fl R vs ++ fl M us
  | [], M, [], us, _ => rfl
  | [], M, _ :: _, us, h => by simp at h
  | _ :: _, M, [], us, h => by simp at h
  | q :: R, M, v :: vs, us, h => by simp only [List.cons_append, fl]; rw [fl_app (by simpa using h)]
theorem fl_get : ∀ {R : Things} {vs : List Value} {i : Nat} {q : ByteArray × List Int} {v : Value}, R[i]? = some q → vs[i]? = some v → (fl R vs)[i * 2]? = some (.string q.1) ∧ (fl R vs)[i * 2 + 1]? = some v
  | [], _, i, _, _, h, _ => by simp at h
  | _ :: _, [], i, _, _, _, h => by simp at h
  | p :: R, u :: vs, 0, q, v, h1, h2 => by simp at h1 h2; subst h1; subst h2; simp [fl]
  | p :: R, u :: vs, i + 1, q, v, h1, h2 => by
    have ih := fl_get (R := R) (vs := vs) (i := i) (by simpa using h1) (by simpa using h2)
    rw [show (i + 1) * 2 = i * 2 + 1 + 1 by omega]
    simp only [fl, List.getElem?_cons_succ]
    exact ih
theorem fl_take : ∀ {R : Things} {vs : List Value} {k : Nat}, vs.length = R.length → fl (R.take k) (vs.take k) = (fl R vs).take (k * 2)
  | [], _, k, _ => by simp [fl]
  | _ :: _, [], k, h => by simp at h
  | q :: R, v :: vs, 0, h => by simp [fl]
  | q :: R, v :: vs, k + 1, h => by
    rw [show (k + 1) * 2 = k * 2 + 1 + 1 by omega]
    simp only [List.take_succ_cons, fl]
    rw [fl_take (by simpa using h)]
theorem fl_drop : ∀ {R : Things} {vs : List Value} {k : Nat}, vs.length = R.length → fl (R.drop k) (vs.drop k) = (fl R vs).drop (k * 2)
  | [], _, k, _ => by simp [fl]
  | _ :: _, [], k, h => by simp at h
  | q :: R, v :: vs, 0, h => by simp
  | q :: R, v :: vs, k + 1, h => by
    rw [show (k + 1) * 2 = k * 2 + 1 + 1 by omega]
    simp only [List.drop_succ_cons, fl]
    exact fl_drop (by simpa using h)
theorem fl_one : ∀ {R : Things} {vs : List Value}, (∀ v ∈ vs, ∃ A n c, v = .slice A n c) → ∀ u ∈ fl R vs, u.oneCell' = true
  | [], _, _, u, h => by simp [fl] at h
  | _ :: _, [], _, u, h => by simp [fl] at h
  | q :: R, v :: vs, hv, u, h => by
    simp only [fl, List.mem_cons] at h
    rcases h with rfl | rfl | h
    · rfl
    · obtain ⟨A, n, c, rfl⟩ := hv u (by simp); rfl
    · exact fl_one (fun x hx => hv x (by simp [hx])) u h

theorem BsP.keepL {w w' : World} {Pd : Nat → Prop} {A : Option Addr} {n : Nat} {xs : List Int} (h : BsP w Pd A n xs) (hk : ∀ b, b < w.heap.size → Pd b → w'.heap[b]? = w.heap[b]?) : BsP w' Pd A n xs := by
  refine ⟨⟨h.1.1, fun hn => ?_⟩, h.2⟩
  obtain ⟨b, off, rfl, hb, hc⟩ := h.1.2 hn
  obtain ⟨b2, off2, hA, hlt, _⟩ := h.bs.1.2 hn
  injection hA with hA
  injection hA with e1 _
  subst e1
  refine ⟨b, off, rfl, hb, fun j u hu => ?_⟩
  rw [World.cell?_of_block (a := ⟨b, off + j, none⟩) (hk b hlt hb)]
  exact hc j u hu

/-- A slice of things. -/
structure Tg (w : World) (Pd : Nat → Prop) (A : Option Addr) (n : Nat) (R : Things) (vs : List Value) : Prop where
  len : R.length = n
  vlen : vs.length = n
  row : RdW 2 w Pd A n (fl R vs)
  sh : A = none ∨ ∃ b off, A = some ⟨b, off, none⟩
  dat : ∀ (i : Nat) (S : ByteArray) (xs : List Int), R[i]? = some (S, xs) → ∃ B d, vs[i]? = some (.slice B xs.length d) ∧ BsP w Pd B xs.length xs
  sls : ∀ v ∈ vs, ∃ A n c, v = .slice A n c
theorem Tg.nil_ {w : World} {Pd : Nat → Prop} : Tg w Pd none 0 [] [] := ⟨rfl, rfl, ⟨rfl, fun h => absurd h (by omega)⟩, .inl rfl, fun i S xs h => by simp at h, fun v h => by simp at h⟩
theorem Tg.keep {w w' : World} {Pd : Nat → Prop} {A : Option Addr} {n : Nat} {R : Things} {vs : List Value} (h : Tg w Pd A n R vs) (hs : w.heap.size ≤ w'.heap.size) (hk : ∀ b, b < w.heap.size → Pd b → (∀ es c, w.heap[b]? ≠ some (.map es c)) → w'.heap[b]? = w.heap[b]?) : Tg w' Pd A n R vs := by
  have nomap : ∀ {b off : Nat} {u : Value}, w.cell? ⟨b, off, none⟩ = some u → ∀ es c, w.heap[b]? ≠ some (.map es c) := by
    intro b off u hc es c hm
    unfold World.cell? at hc
    simp only [hm] at hc
    cases hc
  refine ⟨h.len, h.vlen, ⟨h.row.1, fun hn => ?_⟩, h.sh, fun i S xs hi => ?_, h.sls⟩
  · obtain ⟨b, off, hA, hb, hlt, hc⟩ := h.row.2 hn
    have h0 := hc 0 _ (List.getElem?_eq_getElem (by rw [h.row.1]; omega))
    refine ⟨b, off, hA, hb, Nat.lt_of_lt_of_le hlt hs, fun j u hu => ?_⟩
    rw [World.cell?_of_block (a := ⟨b, off + j, none⟩) (hk b hlt hb (nomap h0))]
    exact hc j u hu
  · obtain ⟨B, d, hv, hb⟩ := h.dat i S xs hi
    refine ⟨B, d, hv, ⟨hb.1.1, fun hn => ?_⟩, hb.2⟩
    obtain ⟨b, off, rfl, hPb, hc⟩ := hb.1.2 hn
    obtain ⟨b2, off2, hA, hlt, _⟩ := hb.bs.1.2 hn
    injection hA with hA
    injection hA with e1 _
    subst e1
    have h0 := hc 0 _ (List.getElem?_eq_getElem (by rw [hb.1.1]; omega))
    refine ⟨b, off, rfl, hPb, fun j u hu => ?_⟩
    rw [World.cell?_of_block (a := ⟨b, off + j, none⟩) (hk b hlt hPb (nomap h0))]
    exact hc j u hu
theorem Tg.below {w w' : World} {Pd : Nat → Prop} {A : Option Addr} {n : Nat} {R : Things} {vs : List Value} (h : Tg w Pd A n R vs) (hb : Below w.heap.size w w') : Tg w' Pd A n R vs := h.keep hb.size fun b hlt _ _ => hb.block b hlt
theorem Tg.imp {w : World} {Pd Pd' : Nat → Prop} {A : Option Addr} {n : Nat} {R : Things} {vs : List Value} (h : Tg w Pd A n R vs) (hi : ∀ b, b < w.heap.size → Pd b → Pd' b) : Tg w Pd' A n R vs := by
  refine ⟨h.len, h.vlen, ⟨h.row.1, fun hn => ?_⟩, h.sh, fun i S xs hh => ?_, h.sls⟩
  · obtain ⟨b, off, hA, hb, hlt, hc⟩ := h.row.2 hn
    exact ⟨b, off, hA, hi b hlt hb, hlt, hc⟩
  · obtain ⟨B, d, hv, hb⟩ := h.dat i S xs hh
    refine ⟨B, d, hv, ⟨hb.1.1, fun hn => ?_⟩, hb.2⟩
    obtain ⟨b, off, rfl, hPb, hc⟩ := hb.1.2 hn
    obtain ⟨b2, off2, hA, hlt, _⟩ := hb.bs.1.2 hn
    injection hA with hA
    injection hA with e1 _
    subst e1
    exact ⟨b, off, rfl, hi b hlt hPb, hc⟩
/-- One of them. -/
theorem Tg.at_ {w : World} {Pd : Nat → Prop} {A : Option Addr} {n k : Nat} {R : Things} {vs : List Value} (h : Tg w Pd A n R vs) (hk : k < n) : ∃ b off S xs B d, A = some ⟨b, off, none⟩ ∧ w.cell? ⟨b, off + k * 2, none⟩ = some (.string S) ∧ w.cell? ⟨b, off + k * 2 + 1, none⟩ = some (.slice B xs.length d) ∧ BsP w Pd B xs.length xs ∧ Hid (R[k]? = some (S, xs)) := by
  obtain ⟨b, off, hA, hb, hlt, hc⟩ := h.row.2 (by omega)
  have hR : R[k]? = some (R[k]'(by rw [h.len]; omega)) := List.getElem?_eq_getElem (by rw [h.len]; omega)
  obtain ⟨⟨S, xs⟩, hq⟩ : ∃ q, R[k]'(by rw [h.len]; omega) = q := ⟨_, rfl⟩
  rw [hq] at hR
  obtain ⟨B, d, hv, hbs⟩ := h.dat k S xs hR
  obtain ⟨g0, g1⟩ := fl_get hR hv
  exact ⟨b, off, S, xs, B, d, hA, hc _ _ g0, hc _ _ g1, hbs, hR⟩

/-- How many names stand ahead of one. -/
def slt (S T : ByteArray) : Bool := Op.bytesLess S.toList T.toList
def kk : Things → ByteArray → Nat
  | [], _ => 0
  | q :: R, S => if slt q.1 S then kk R S + 1 else 0
theorem kk_le : ∀ (R : Things) (S : ByteArray), kk R S ≤ R.length
  | [], _ => Nat.le_refl _
  | q :: R, S => by unfold kk; split; { have := kk_le R S; simp; omega }; { simp }
theorem kk_next {R : Things} {S T : ByteArray} {xs : List Int} {k : Nat} (h : kk R S = k + kk (R.drop k) S) (hk : R[k]? = some (T, xs)) (hl : slt T S = true) : kk R S = (k + 1) + kk (R.drop (k + 1)) S := by
  obtain ⟨hlt, e⟩ := List.getElem?_eq_some_iff.1 hk
  rw [List.drop_eq_getElem_cons hlt, e] at h
  simp only [kk, hl, if_true] at h
  omega
theorem kk_stop {R : Things} {S T : ByteArray} {xs : List Int} {k : Nat} (h : kk R S = k + kk (R.drop k) S) (hk : R[k]? = some (T, xs)) (hl : slt T S = false) : kk R S = k := by
  obtain ⟨hlt, e⟩ := List.getElem?_eq_some_iff.1 hk
  rw [List.drop_eq_getElem_cons hlt, e] at h
  simp only [kk, hl] at h
  simpa using h
theorem kk_end {R : Things} {S : ByteArray} {k : Nat} (h : kk R S = k + kk (R.drop k) S) (hk : k = R.length) : kk R S = k := by
  rw [hk, List.drop_length] at h
  rw [h, hk]; rfl
end Go.Proofs.YtlphlogliphhdaaDoor
