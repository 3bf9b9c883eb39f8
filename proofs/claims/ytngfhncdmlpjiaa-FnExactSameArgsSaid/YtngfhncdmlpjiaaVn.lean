/- What is proved: the program's SameValue says whether two values are the same, part by part: a value told as a row of cells. -/
import Derived.Test.YtngfhncdmlpjiaaVs
import Derived.Test.YtngfhncdmlpjiaaDcPe4
namespace Go.Proofs.Ytngfhncdmlpjiaa
namespace Va
set_option linter.unusedVariables false
set_option linter.unusedSimpArgs false
open Go.RowKit

/-- A value as a row of cells. -/
def drow (k : Int) (t : ByteArray) (n : Nat) (f : Nat → Nat → Da.D) (m : Nat) (nm : Nat → ByteArray) : Nat → Da.D
  | 0 => .int k
  | 1 => .str t
  | 2 => .list 4 n f
  | 3 => .list 1 m (fun i _ => .str (nm i))
  | _ => .no
def dv : V → (Nat → Da.D)
  | .no => fun _ => .no
  | .mk k t n it m nm => drow k t n (fun i => dv (it i)) m nm
theorem dv_at {w : World} : ∀ (v : V) {c0 c1 c2 c3 : Value}, At w v c0 c1 c2 c3 → ∀ j c, [c0, c1, c2, c3][j]? = some c → Da.At w (dv v j) c
  | .no, _, _, _, _, h => h.elim
  | .mk k t n it m nm, c0, c1, c2, c3, h => by
    obtain ⟨rfl, rfl, ht, ⟨A, cap, rfl, hn, hi⟩, ⟨B, bc, rfl, hm, hj⟩⟩ := h
    refine Dc.atl_cons (r := drow k t n (fun i => dv (it i)) m nm) rfl (Dc.atl_cons ⟨rfl, ht⟩ (Dc.atl_cons ⟨A, cap, rfl, hn, fun i hi' => ?_⟩ (Dc.atl_cons ⟨B, bc, rfl, hm, fun i hi' => ?_⟩ Dc.atl_nil)))
    · obtain ⟨b, o, d0, d1, d2, d3, rfl, hf, ha⟩ := hi i hi'
      have q := dv_at (it i) ha
      refine ⟨b, o, rfl, fun j hj => ?_⟩
      match j, hj with
      | 0, _ => exact ⟨d0, hf.c0, q 0 _ rfl⟩
      | 1, _ => exact ⟨d1, hf.c1, q 1 _ rfl⟩
      | 2, _ => exact ⟨d2, hf.c2, q 2 _ rfl⟩
      | 3, _ => exact ⟨d3, hf.c3, q 3 _ rfl⟩
      | j + 4, hj => omega
    · obtain ⟨b, o, rfl, h1, h2⟩ := hj i hi'
      refine ⟨b, o, rfl, fun j hj => ?_⟩
      obtain rfl : j = 0 := by omega
      rw [Nat.mul_one, Nat.add_zero]
      exact ⟨_, h1, rfl, h2⟩
theorem dv_sh {w : World} : ∀ (v : V) {c0 c1 c2 c3 : Value}, At w v c0 c1 c2 c3 → ∀ j g, (Da.row .value)[j]? = some g → Da.Sh (dv v j) g
  | .no, _, _, _, _, h => h.elim
  | .mk k t n it m nm, c0, c1, c2, c3, h => by
    obtain ⟨-, -, -, ⟨A, cap, -, -, hi⟩, -⟩ := h
    refine Dc.shl_cons (r := drow k t n (fun i => dv (it i)) m nm) rfl (Dc.shl_cons rfl (Dc.shl_cons ⟨.value, rfl, rfl, fun i hi' => ?_⟩ (Dc.shl_cons ⟨.text, rfl, rfl, fun i hi' => ?_⟩ Dc.shl_nil)))
    · obtain ⟨b, o, d0, d1, d2, d3, rfl, hf, ha⟩ := hi i hi'
      exact dv_sh (it i) ha
    · exact Dc.shl_cons (r := fun _ => .str (nm i)) rfl Dc.shl_nil
theorem sumTo_eq {f g : Nat → Nat} (h : ∀ i, f i = g i) : ∀ n, Da.sumTo f n = sumTo g n
  | 0 => rfl
  | n + 1 => by simp only [Da.sumTo, sumTo, h n, sumTo_eq h n]
theorem dv_sz : ∀ v : V, Da.sumTo (fun j => Da.sz (dv v j)) 4 = sz v
  | .no => rfl
  | .mk k t n it m nm => by
    have h1 := sumTo_eq (f := fun i => Da.sumTo (fun j => Da.sz (dv (it i) j)) 4) (g := fun i => sz (it i)) (fun i => dv_sz (it i)) n
    have h2 := sumTo_eq (f := fun i => Da.sumTo (fun j => Da.sz (.str (nm i))) 1) (g := fun i => (nm i).size) (fun i => by simp [Da.sumTo, Da.sz]) m
    show (((0 + 0) + t.size) + (n + Da.sumTo (fun i => Da.sumTo (fun j => Da.sz (dv (it i) j)) 4) n)) + (m + Da.sumTo (fun i => Da.sumTo (fun j => Da.sz (.str (nm i))) 1) m) = t.size + (n + sumTo (fun i => sz (it i)) n) + (m + sumTo (fun j => (nm j).size) m)
    rw [h1, h2]
    omega
theorem str_iff {a b : ByteArray} : (a.toList == b.toList) = true ↔ a = b := by
  constructor
  · intro h
    have hc := eq_of_beq h
    rw [ByteArray.toList_eq, ByteArray.toList_eq] at hc
    exact ByteArray.ext (Array.toList_inj.1 hc)
  · rintro rfl; simp
theorem dv_sm : ∀ v u : V, Dc.smR 4 (dv v) (dv u) = true ↔ Same v u
  | .no, u => by
    have : Dc.smR 4 (dv .no) (dv u) = false := Dc.allB_no (f := fun j => Dc.sm (dv .no j) (dv u j)) (i := 0) (by omega) rfl
    simp [this, Same]
  | .mk k t n it m nm, .no => by
    have : Dc.smR 4 (dv (.mk k t n it m nm)) (dv .no) = false := Dc.allB_no (f := fun j => Dc.sm (dv (.mk k t n it m nm) j) (dv .no j)) (i := 0) (by omega) rfl
    simp [this, Same]
  | .mk k t n it m nm, .mk k' t' n' it' m' nm' => by
    have e : Dc.smR 4 (dv (.mk k t n it m nm)) (dv (.mk k' t' n' it' m' nm')) = ((((true && (k == k')) && (t.toList == t'.toList)) && (n == n' && Dc.allB (fun i => Dc.smR 4 (dv (it i)) (dv (it' i))) n)) && (m == m' && Dc.allB (fun i => Dc.smR 1 (fun _ => .str (nm i)) (fun _ => .str (nm' i))) m)) := rfl
    rw [e]
    simp only [Bool.true_and, Bool.and_eq_true, beq_iff_eq, Dc.allB_iff]
    have hs : ∀ i, Dc.smR 1 (fun _ => .str (nm i)) (fun _ => .str (nm' i)) = true ↔ nm i = nm' i := fun i => by
      show (true && ((nm i).toList == (nm' i).toList)) = true ↔ _
      rw [Bool.true_and]
      exact str_iff
    constructor
    · rintro ⟨⟨⟨h1, h2⟩, h3, h4⟩, h5, h6⟩
      exact ⟨h1, str_iff.1 (by simpa using h2), h3, h5, fun j hj => (hs j).1 (h6 j hj), fun i hi => (dv_sm (it i) (it' i)).1 (h4 i hi)⟩
    · rintro ⟨h1, h2, h3, h5, h6, h4⟩
      exact ⟨⟨⟨h1, by simpa using str_iff.2 h2⟩, h3, fun i hi => (dv_sm (it i) (it' i)).2 (h4 i hi)⟩, h5, fun j hj => (hs j).2 (h6 j hj)⟩

/-- The program's SameValue. -/
theorem sameI (v u : V) (w : World) (c0 c1 c2 c3 d0 d1 d2 d3 : Value) (hs : sz v ≤ 1048576) (h : At w v c0 c1 c2 c3) (h' : At w u d0 d1 d2 d3) :
    Calls Try.prog 8 #[.agg #[c0, c1, c2, c3], .agg #[d0, d1, d2, d3]] w fun e w' => ∃ r : Bool, e = .returned (.bool r) ∧ (r = true ↔ Same v u) ∧ Below w.heap.size w w' :=
  (Dc.valueI (r := dv v) (r' := dv u) (dv_sh v h) (dv_sh u h') (by rw [dv_sz]; exact hs) w [c0, c1, c2, c3] [d0, d1, d2, d3] rfl rfl (dv_at v h) (dv_at u h')).mono fun e w' ⟨he, hb⟩ => ⟨_, he, dv_sm v u, hb⟩
end Va
end Go.Proofs.Ytngfhncdmlpjiaa
