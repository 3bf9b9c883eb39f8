/- What is proved: the program's SameArgs says whether two lists of names with values are the same, one by one: a list told as rows of cells. -/
import Derived.Test.YtngfhncdmlpjiaaArS
import Derived.Test.YtngfhncdmlpjiaaVn
import Derived.Test.YtngfhncdmlpjiaaDcPa
namespace Go.Proofs.Ytngfhncdmlpjiaa
namespace Va
set_option linter.unusedVariables false
open Go.RowKit

/-- A name with its value as a row of cells. -/
def da (t : ByteArray) (v : V) : Nat → Da.D
  | 0 => .str t
  | j + 1 => dv v j
theorem da_at {w : World} {n : Nat} {nm : Nat → ByteArray} {it : Nat → V} {c : Value} (h : Ars w n nm it c) : Da.At w (.list 5 n fun i => da (nm i) (it i)) c := by
  obtain ⟨A, cap, rfl, hn, hi⟩ := h
  refine ⟨A, cap, rfl, hn, fun i hi' => ?_⟩
  obtain ⟨b, o, d0, d1, d2, d3, rfl, hf, ht, ha⟩ := hi i hi'
  have q := dv_at (it i) ha
  refine ⟨b, o, rfl, fun j hj => ?_⟩
  match j, hj with
  | 0, _ => exact ⟨_, hf.cn, rfl, ht⟩
  | 1, _ => exact ⟨d0, hf.c0, q 0 _ rfl⟩
  | 2, _ => exact ⟨d1, hf.c1, q 1 _ rfl⟩
  | 3, _ => exact ⟨d2, hf.c2, q 2 _ rfl⟩
  | 4, _ => exact ⟨d3, hf.c3, q 3 _ rfl⟩
  | j + 5, hj => omega
theorem da_sh {w : World} {n : Nat} {nm : Nat → ByteArray} {it : Nat → V} {c : Value} (h : Ars w n nm it c) : Da.Sh (.list 5 n fun i => da (nm i) (it i)) (.lst .arg) := by
  obtain ⟨A, cap, rfl, hn, hi⟩ := h
  refine ⟨.arg, rfl, rfl, fun i hi' => ?_⟩
  obtain ⟨b, o, d0, d1, d2, d3, rfl, hf, ht, ha⟩ := hi i hi'
  have q := dv_sh (it i) ha
  exact Dc.shl_cons (r := da (nm i) (it i)) rfl (Dc.shl_cons (q 0 _ rfl) (Dc.shl_cons (q 1 _ rfl) (Dc.shl_cons (q 2 _ rfl) (Dc.shl_cons (q 3 _ rfl) Dc.shl_nil))))
theorem da_sz (n : Nat) (nm : Nat → ByteArray) (it : Nat → V) : Da.sz (.list 5 n fun i => da (nm i) (it i)) = sza n nm it := by
  have h1 := sumTo_eq (f := fun i => Da.sumTo (fun j => Da.sz (da (nm i) (it i) j)) 5) (g := fun i => (nm i).size + sz (it i)) (fun i => by
    have := dv_sz (it i)
    have e : Da.sumTo (fun j => Da.sz (da (nm i) (it i) j)) 5 = ((((0 + (nm i).size) + Da.sz (dv (it i) 0)) + Da.sz (dv (it i) 1)) + Da.sz (dv (it i) 2)) + Da.sz (dv (it i) 3) := rfl
    have e2 : Da.sumTo (fun j => Da.sz (dv (it i) j)) 4 = (((0 + Da.sz (dv (it i) 0)) + Da.sz (dv (it i) 1)) + Da.sz (dv (it i) 2)) + Da.sz (dv (it i) 3) := rfl
    rw [e2] at this
    rw [e]
    omega) n
  show n + Da.sumTo (fun i => Da.sumTo (fun j => Da.sz (da (nm i) (it i) j)) 5) n = _
  rw [h1]
  rfl
theorem da_sm (n : Nat) (nm : Nat → ByteArray) (it : Nat → V) (n' : Nat) (nm' : Nat → ByteArray) (it' : Nat → V) :
    Dc.sm (.list 5 n fun i => da (nm i) (it i)) (.list 5 n' fun i => da (nm' i) (it' i)) = true ↔ SameA n nm it n' nm' it' := by
  rw [Dc.sm_list]
  simp only [Bool.and_eq_true, beq_iff_eq, Dc.allB_iff]
  have hr : ∀ i, Dc.smR 5 (da (nm i) (it i)) (da (nm' i) (it' i)) = true ↔ nm i = nm' i ∧ Same (it i) (it' i) := fun i => by
    have e : Dc.smR 5 (da (nm i) (it i)) (da (nm' i) (it' i)) = (((((true && ((nm i).toList == (nm' i).toList)) && Dc.sm (dv (it i) 0) (dv (it' i) 0)) && Dc.sm (dv (it i) 1) (dv (it' i) 1)) && Dc.sm (dv (it i) 2) (dv (it' i) 2)) && Dc.sm (dv (it i) 3) (dv (it' i) 3)) := rfl
    have e2 : Dc.smR 4 (dv (it i)) (dv (it' i)) = ((((true && Dc.sm (dv (it i) 0) (dv (it' i) 0)) && Dc.sm (dv (it i) 1) (dv (it' i) 1)) && Dc.sm (dv (it i) 2) (dv (it' i) 2)) && Dc.sm (dv (it i) 3) (dv (it' i) 3)) := rfl
    rw [← dv_sm, ← str_iff, e, e2]
    generalize ((nm i).toList == (nm' i).toList) = y
    cases y <;> simp
  constructor
  · rintro ⟨h1, h2⟩
    exact ⟨h1, fun i hi => (hr i).1 (h2 i hi)⟩
  · rintro ⟨h1, h2⟩
    exact ⟨h1, fun i hi => (hr i).2 (h2 i hi)⟩

/-- The program's SameArgs. -/
theorem sameA {n n' : Nat} {nm nm' : Nat → ByteArray} {it it' : Nat → V} {c d : Value} (w : World) (hs : sza n nm it ≤ 1048576) (h : Ars w n nm it c) (h' : Ars w n' nm' it' d) :
    Calls Try.prog 13 #[c, d] w (SmLeft (SameA n nm it n' nm' it') w) :=
  (Dc.argsI (da_sh h) (da_sh h') (by rw [da_sz]; exact hs) w c d (da_at h) (da_at h')).mono fun e w' ⟨he, hb⟩ => ⟨_, he, da_sm n nm it n' nm' it', hb⟩
end Va
end Go.Proofs.Ytngfhncdmlpjiaa
