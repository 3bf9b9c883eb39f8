/- What is proved: what RunesOf of the model and of the program answer at every text of at most a million bytes: its scalars in order, in new memory; nothing where it is no such text. Used by the proofs of FnExactRunesOfCardSaid and FnRunesCardSaid. -/
import Derived.Test.YtcmcddhhokgbnaaDoorOk
import Derived.Test.YtcmcddhhokgbnaaDoorDr0
namespace Go.Proofs.YtcmcddhhokgbnaaDoor
open Go.RowKit

/-- The scalars from a place on. -/
def runesF (s : ByteArray) : Nat → Nat → List Int
  | 0, _ => []
  | f + 1, pos => if pos < s.size then ((Utf8.decode s pos).1 : Int) :: runesF s f (pos + (Utf8.decode s pos).2) else []
def runes (s : ByteArray) : List Int := if ok s then runesF s s.size 0 else []

theorem runesF_end {s : ByteArray} {f pos : Nat} (h : ¬ pos < s.size) : runesF s f pos = [] := by
  cases f with
  | zero => rfl
  | succ f => simp [runesF, h]
theorem runesF_go {s : ByteArray} {f pos : Nat} (h : pos < s.size) (hf : s.size ≤ pos + f) (hok : okF s f pos = true) :
    ∃ f', okF s f' (pos + (Utf8.decode s pos).2) = true ∧ runesF s f pos = ((Utf8.decode s pos).1 : Int) :: runesF s f' (pos + (Utf8.decode s pos).2) ∧ s.size ≤ pos + (Utf8.decode s pos).2 + f' ∧ ¬ Utf8.decode s pos = (65533, 1) := by
  have hd := (dec_bound s pos h).2.1
  cases f with
  | zero => omega
  | succ f =>
    have hb : ¬ Utf8.decode s pos = (65533, 1) := fun hb => by simp [okF, h, hb] at hok
    refine ⟨f, ?_, ?_, by omega, hb⟩
    · simp only [okF] at hok; rw [if_pos h, if_neg hb] at hok; exact hok
    · simp only [runesF]; rw [if_pos h]

/-- What the loop has at a place: its list L, and what is still to come. -/
def RInv (s : ByteArray) (pos : Nat) (L : List Int) : Prop := ∃ f, okF s f pos = true ∧ s.size ≤ pos + f ∧ L ++ runesF s f pos = runes s
theorem rinv_start {s : ByteArray} (h : ok s = true) : RInv s 0 [] := ⟨s.size, h, by omega, by simp [runes, h]⟩
theorem rinv_go {s : ByteArray} {pos : Nat} {L : List Int} (hI : RInv s pos L) (h : pos < s.size) : RInv s (pos + (Utf8.decode s pos).2) (L ++ [((Utf8.decode s pos).1 : Int)]) ∧ ¬ Utf8.decode s pos = (65533, 1) := by
  obtain ⟨f, h1, h2, h3⟩ := hI
  obtain ⟨f', g1, g2, g3, g4⟩ := runesF_go h h2 h1
  exact ⟨⟨f', g1, g3, by rw [← h3, g2]; simp⟩, g4⟩
theorem rinv_end {s : ByteArray} {pos : Nat} {L : List Int} (hI : RInv s pos L) (h : ¬ pos < s.size) : L = runes s := by
  obtain ⟨f, h1, h2, h3⟩ := hI
  rw [runesF_end h, List.append_nil] at h3; exact h3

/-- What a call of RunesOf leaves. -/
def Left (L : List Int) (n : Nat) (w : World) (e : Ending) (w' : World) : Prop :=
  ∃ g cap : Nat, e = .returned (.slice (some ⟨g, 0, none⟩) n cap) ∧ w.heap.size ≤ g ∧ w'.ownsRow w.heap.size 3 1 (.slice (some ⟨g, 0, none⟩) n cap) n (intC L) ∧ Below w.heap.size w w'
theorem left_mk {s : ByteArray} {w w' : World} {L : List Int} {g cap : Nat} (h : L = runes s) (hg : w.heap.size ≤ g) (ho : w'.ownsRow w.heap.size 3 1 (.slice (some ⟨g, 0, none⟩) L.length cap) L.length (intC L)) (hb : Below w.heap.size w w') :
    Left (runes s) (runes s).length w (.returned (.slice (some ⟨g, 0, none⟩) L.length cap)) w' := by
  subst h; exact ⟨g, cap, rfl, hg, ho, hb⟩
theorem left_none {s : ByteArray} {w w' : World} (h : ok s = false) (hb : Below (w.alloc (.cells #[] 3)).heap.size (w.alloc (.cells #[] 3)) w') :
    Left (runes s) (runes s).length w (.returned (.slice (some ⟨w.heap.size, 0, none⟩) 0 0)) w' := by
  have hr : runes s = [] := by simp [runes, h]
  rw [hr]
  refine ⟨w.heap.size, 0, rfl, Nat.le_refl _, own_below (World.ownsRow_lit w #[] 0 (Nat.le_refl _) (Nat.zero_le _) rfl) hb, ?_⟩
  exact ((Below.refl _ _).alloc (Nat.le_refl _) _).trans (hb.mono (by simp))

end Go.Proofs.YtcmcddhhokgbnaaDoor
