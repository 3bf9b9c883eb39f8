/- What is proved: the variables in a value, as plain lists: one by one, and as they wait. -/
import Derived.Test.YtjlabdnjdokpnaaRVm
namespace Go.Proofs.YtjlabdnjdokpnaaR
namespace Va
open Go.RowKit

open Classical in
/-- A name, once. -/
noncomputable def add (t : ByteArray) (out : List ByteArray) : List ByteArray := if t ∈ out then out else out ++ [t]
def foldTo (f : Nat → List ByteArray → List ByteArray) : Nat → List ByteArray → List ByteArray
  | 0, out => out
  | n + 1, out => f n (foldTo f n out)
/-- The variables in a value, behind those that are there. -/
noncomputable def vars : V → List ByteArray → List ByteArray
  | .no, out => out
  | .mk k t n it _ _, out => if k = 1 then add t out else foldTo (fun i => vars (it i)) n out
theorem vars_var (t : ByteArray) (n : Nat) (it : Nat → V) (m : Nat) (nm : Nat → ByteArray) (out : List ByteArray) : vars (.mk 1 t n it m nm) out = add t out := by simp [vars]
theorem vars_many {k : Int} (hk : k ≠ 1) (t : ByteArray) (n : Nat) (it : Nat → V) (m : Nat) (nm : Nat → ByteArray) (out : List ByteArray) : vars (.mk k t n it m nm) out = foldTo (fun i => vars (it i)) n out := by simp [vars, hk]

theorem add_length (t : ByteArray) (out : List ByteArray) : (add t out).length ≤ out.length + 1 ∧ out.length ≤ (add t out).length := by
  unfold add; split <;> simp
theorem foldTo_length (f : Nat → List ByteArray → List ByteArray) (g : Nat → Nat) (n : Nat) (out : List ByteArray) (h : ∀ i, i < n → ∀ o, (f i o).length ≤ o.length + g i ∧ o.length ≤ (f i o).length) :
    (foldTo f n out).length ≤ out.length + sumTo g n ∧ out.length ≤ (foldTo f n out).length := by
  induction n with
  | zero => simp [foldTo, sumTo]
  | succ n ih =>
    have h1 := ih fun i hi => h i (by omega)
    have h2 := h n (by omega) (foldTo f n out)
    simp only [foldTo, sumTo]; omega
theorem vars_length : ∀ (v : V) (out : List ByteArray), (vars v out).length ≤ out.length + nodes v ∧ out.length ≤ (vars v out).length
  | .no, out => by simp [vars, nodes]
  | .mk k t n it m nm, out => by
    rw [nodes_mk]
    by_cases hk : k = 1
    · subst hk; rw [vars_var]; have := add_length t out; omega
    · rw [vars_many hk]
      have := foldTo_length (fun i => vars (it i)) (fun i => nodes (it i)) n out fun i _ o => vars_length (it i) o
      omega

/-- Whether there is no variable in it. -/
def isC : V → Prop
  | .no => True
  | .mk k _ n it _ _ => (∀ i, i < n → isC (it i)) ∧ k ≠ 1
theorem foldTo_same (f : Nat → List ByteArray → List ByteArray) (n : Nat) (out : List ByteArray) (h : ∀ i, i < n → f i out = out) : foldTo f n out = out := by
  induction n with
  | zero => rfl
  | succ n ih => simp only [foldTo, ih fun i hi => h i (by omega)]; exact h n (by omega)
theorem vars_const : ∀ (v : V) (out : List ByteArray), isC v → vars v out = out
  | .no, _, _ => rfl
  | .mk k t n it m nm, out, h => by
    rw [vars_many h.2]
    exact foldTo_same _ n out fun i hi => vars_const (it i) out (h.1 i hi)
theorem foldTo_more (f : Nat → List ByteArray → List ByteArray) (n i : Nat) (out : List ByteArray) (hi : i < n) (h1 : ∀ o, f i o ≠ []) (h2 : ∀ j o, o ≠ [] → f j o ≠ []) : foldTo f n out ≠ [] := by
  induction n with
  | zero => omega
  | succ n ih =>
    simp only [foldTo]
    by_cases hin : i = n
    · subst hin; exact h1 _
    · exact h2 n _ (ih (by omega))
theorem vars_more (v : V) (out : List ByteArray) (h : out ≠ []) : vars v out ≠ [] := by
  have := (vars_length v out).2
  intro hh
  rw [hh] at this
  exact h (List.eq_nil_of_length_eq_zero (by simpa using this))
theorem vars_some : ∀ (v : V) (out : List ByteArray), ¬ isC v → vars v out ≠ []
  | .no, _, h => absurd trivial h
  | .mk k t n it m nm, out, h => by
    by_cases hk : k = 1
    · subst hk; rw [vars_var]; unfold add; split
      · rename_i hm; intro hh; rw [hh] at hm; simp at hm
      · simp
    · rw [vars_many hk]
      have : ∃ i, i < n ∧ ¬ isC (it i) := by
        refine Classical.byContradiction fun hno => h ⟨fun i hi => Classical.byContradiction fun hc => hno ⟨i, hi, hc⟩, hk⟩
      obtain ⟨i, hi, hc⟩ := this
      exact foldTo_more _ n i out hi (fun o => vars_some (it i) o hc) (fun j o ho => vars_more (it j) o ho)
theorem vars_nil (v : V) : vars v [] = [] ↔ isC v :=
  ⟨fun h => Classical.byContradiction fun hc => vars_some v [] hc h, vars_const v []⟩

/-! ### As they wait -/
noncomputable def varsL : List V → List ByteArray → List ByteArray
  | [], out => out
  | v :: L, out => varsL L (vars v out)
/-- The last j of n items, on top of L. -/
def seg (it : Nat → V) (n : Nat) (L : List V) : Nat → List V
  | 0 => L
  | j + 1 => it (n - 1 - j) :: seg it n L j
noncomputable def foldR (it : Nat → V) (n : Nat) : Nat → List ByteArray → List ByteArray
  | 0, out => out
  | j + 1, out => foldR it n j (vars (it (n - 1 - j)) out)
theorem seg_fold (it : Nat → V) (n : Nat) (L : List V) (j : Nat) (out : List ByteArray) : varsL (seg it n L j) out = varsL L (foldR it n j out) := by
  induction j generalizing out with
  | zero => rfl
  | succ j ih => simp only [seg, varsL, foldR, ih]
theorem foldR_to (it : Nat → V) (n : Nat) (out : List ByteArray) (j : Nat) (hj : j ≤ n) : foldR it n j (foldTo (fun i => vars (it i)) (n - j) out) = foldTo (fun i => vars (it i)) n out := by
  induction j with
  | zero => rfl
  | succ j ih =>
    rw [← ih (by omega)]
    have e : n - j = (n - (j + 1)) + 1 := by omega
    rw [e]
    simp only [foldR, foldTo]
    rw [show n - 1 - j = n - (j + 1) by omega]
theorem seg_all (it : Nat → V) (n : Nat) (L : List V) (out : List ByteArray) : varsL (seg it n L n) out = varsL L (foldTo (fun i => vars (it i)) n out) := by
  rw [seg_fold, ← foldR_to it n out n (Nat.le_refl _), Nat.sub_self]; rfl
def weightV : List V → Nat
  | [] => 0
  | v :: L => nodes v + weightV L
theorem seg_length (it : Nat → V) (n : Nat) (L : List V) (j : Nat) : (seg it n L j).length = L.length + j := by
  induction j with
  | zero => rfl
  | succ j ih => simp [seg, ih]; omega
theorem seg_weight (it : Nat → V) (n : Nat) (L : List V) (j : Nat) (hj : j ≤ n) : weightV (seg it n L j) + sumTo (fun i => nodes (it i)) (n - j) = weightV L + sumTo (fun i => nodes (it i)) n := by
  induction j with
  | zero => simp [seg]
  | succ j ih =>
    have := ih (by omega)
    rw [show n - j = (n - (j + 1)) + 1 by omega] at this
    simp only [seg, weightV, sumTo] at this ⊢
    rw [show n - 1 - j = n - (j + 1) by omega]; omega
theorem weightV_length (L : List V) : L.length ≤ weightV L := by
  induction L with
  | nil => simp [weightV]
  | cons p L ih => have := nodes_pos p; simp only [List.length_cons, weightV]; omega
/-- Values that wait, the last one first: four cells each. -/
def StackV (w : World) : List V → List Value → Prop
  | [], xs => xs = []
  | v :: L, xs => ∃ ys c0 c1 c2 c3, xs = ys ++ [c0, c1, c2, c3] ∧ At w v c0 c1 c2 c3 ∧ StackV w L ys
theorem StackV.length {w : World} : ∀ {L : List V} {xs : List Value}, StackV w L xs → xs.length = L.length * 4
  | [], _, h => by simp [StackV] at h; simp [h]
  | p :: L, _, h => by
    obtain ⟨ys, c0, c1, c2, c3, rfl, -, h⟩ := h
    have := h.length
    simp [this]; omega
def strB (L : List ByteArray) : List Value := L.map Value.string
theorem strB_length (L : List ByteArray) : (strB L).length = L.length := by simp [strB]
theorem strB_at (L : List ByteArray) (k : Nat) (h : k < L.length) : (strB L)[k]? = some (.string (L[k])) := by simp [strB, h]
end Va
end Go.Proofs.YtjlabdnjdokpnaaR
