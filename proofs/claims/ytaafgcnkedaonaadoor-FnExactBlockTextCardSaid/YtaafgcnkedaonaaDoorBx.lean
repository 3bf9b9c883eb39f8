/- What is proved: the program's BlockText answers the plain function btx at every text of at most one million bytes, where the library's two tables of UTF-8 hold what they should. -/
import Derived.Test.YtaafgcnkedaonaaDoorBt
namespace Go.Proofs.YtaafgcnkedaonaaDoor
open Go.RowKit

theorem le_dec {x : Nat} {c : Nat} (h : ¬ x = c) : ((x : Int) != (c : Int)) = true := by rw [bne_iff_ne]; omega

set_option maxHeartbeats 800000 in
theorem barC (x : Nat) (w : World) : Calls Tryd.prog 31 #[.int .i32 (x : Int)] w fun e w' => e = .returned (.bool (barN x)) ∧ ∃ q, w' = w.drewN q := by
  by_cases h32 : x < 32
  · have t32 : (x : Int) < 32 := by omega
    by_cases c9 : x = 9
    · subst c9
      go_enter Tryd.func31, Tryd.ntmps31
      go_wp2_with fail
      go_ret
      exact ⟨rfl, 0, rfl⟩
    have t9 : ((x : Int) != 9) = true := le_dec (c := 9) c9
    by_cases c10 : x = 10
    · subst c10
      go_enter Tryd.func31, Tryd.ntmps31
      go_wp2_with fail
      go_ret
      exact ⟨rfl, 0, rfl⟩
    have t10 : ((x : Int) != 10) = true := le_dec (c := 10) c10
    by_cases c13 : x = 13
    · subst c13
      go_enter Tryd.func31, Tryd.ntmps31
      go_wp2_with fail
      go_ret
      exact ⟨rfl, 0, rfl⟩
    have t13 : ((x : Int) != 13) = true := le_dec (c := 13) c13
    rw [show barN x = true by simp [barN, h32, c9, c10, c13]]
    clear c9 c10 c13 h32
    go_enter Tryd.func31, Tryd.ntmps31
    go_wp2_with fail
    go_ret
    exact ⟨rfl, 0, rfl⟩
  · have t32 : ¬ (x : Int) < 32 := by omega
    rw [show barN x = false by simp [barN]; omega]
    clear h32
    go_enter Tryd.func31, Tryd.ntmps31
    go_wp2_with fail
    go_ret
    exact ⟨rfl, 0, rfl⟩

theorem hasBar (s : ByteArray) (w : World) : Calls Tryd.prog 30 #[.string s, .func (.func 31) #[] #[]] w fun e w' => e = .returned (.bool ((ls s).any bar)) ∧ Below w.heap.size w w' := by
  rw [← idx_any s]
  exact Tryd.strings_ContainsFunc 31 #[] (enters_of Tryd.func31 (by kernel_rfl) rfl) barN s w (fun W x _ => barC x W)

theorem raw_impl {s : ByteArray} (h : bend s 0 = s.size) : Lib.replaceAll (s.extract 3 (s.size - 3)).data.toList [92, 34, 34, 34] [34, 34, 34] = rs ((ls s).drop 3) := by
  obtain ⟨-, h2⟩ := bend_at h
  have := raw_same _ 3 _ (Nat.le_refl _) h2
  rw [List.length_drop, ls_len] at this
  rw [Lib.extract_data]
  exact this
theorem raw_size {s : ByteArray} (h : s.size ≤ 1000) : (s.extract 3 (s.size - 3)).size ≤ 1000 := by rw [ByteArray.size_extract]; omega
theorem rs_len : ∀ l : Bs, (rs l).length ≤ l.length
  | [] => Nat.le_refl _
  | b :: r => by
    have := rs_len r
    rw [rs]; split
    · simp
    · split <;> simp <;> omega

set_option maxHeartbeats 2000000 in
set_option maxRecDepth 100000 in
theorem btI (s : ByteArray) (w : World) (hz : s.size ≤ 1048576) (hT : Lib.Utf8Tabs 0 1 w) (hm : Ml w) :
    Calls Tryd.prog 15 #[.string s] w fun e w' => e = .returned (.tuple #[.string ⟨(btx s).1.toArray⟩, .bool (btx s).2]) ∧ Below w.heap.size w w' := by
  by_cases h1 : s.size ≤ 1000
  case neg =>
    have h1' : (1000 : Int) < (s.size : Int) := by omega
    rw [btx_long h1]
    go_enter Tryd.func15, Tryd.ntmps15
    go_wp2_with fail
    go_ret2
    exact ⟨rfl, Below.refl _ _⟩
  have h1' : ¬ (1000 : Int) < (s.size : Int) := by omega
  have cE := beI s 0 w (by omega)
  by_cases h2 : bend s 0 = s.size
  case neg =>
    rw [btx_end h2]
    obtain ⟨E, hE⟩ : ∃ E, bend s 0 = E := ⟨_, rfl⟩
    rw [hE] at cE h2
    have h2' : (E != (s.size : Int)) = true := by rw [bne_iff_ne]; exact h2
    clear h2 hE
    go_enter Tryd.func15, Tryd.ntmps15
    go_wp2_with fail
    refine cE.mono ?_
    rintro e w1 ⟨rfl, rfl⟩
    go_wp2_with fail
    go_ret2
    exact ⟨rfl, Below.refl _ _⟩
  rw [h2] at cE
  have cO := okI s w hT
  cases h3 : ok s with
  | false =>
    rw [btx_not h3]
    rw [h3] at cO
    clear h2 h3
    go_enter Tryd.func15, Tryd.ntmps15
    go_wp2_with fail
    refine cE.mono ?_
    rintro e w1 ⟨rfl, rfl⟩
    go_wp2_with fail
    refine cO.mono ?_
    rintro e w1 ⟨rfl, hb1⟩
    go_wp2_with fail
    go_ret2
    exact ⟨rfl, hb1⟩
  | true =>
    rw [h3] at cO
    have cB := fun w => hasBar s w
    cases h4 : (ls s).any bar with
    | true =>
      rw [btx_bar h4]
      rw [h4] at cB
      clear h2 h3 h4
      go_enter Tryd.func15, Tryd.ntmps15
      go_wp2_with fail
      refine cE.mono ?_
      rintro e w1 ⟨rfl, rfl⟩
      go_wp2_with fail
      refine cO.mono ?_
      rintro e w1 ⟨rfl, hb1⟩
      go_wp2_with fail
      refine (cB _).mono ?_
      rintro e w2 ⟨rfl, hb2⟩
      have hb := hb1.trans (hb2.mono hb1.size)
      go_wp2_with fail
      go_ret2
      exact ⟨rfl, hb⟩
    | false =>
      rw [h4] at cB
      obtain ⟨p6, -, -⟩ := bend_parts h2
      have hraw := raw_impl h2
      have hrz := raw_size h1
      obtain ⟨A, hA⟩ : ∃ A, s.extract 3 (s.size - 3) = A := ⟨_, rfl⟩
      rw [hA] at hraw hrz
      obtain ⟨Q, hQ⟩ : ∃ Q, rs ((ls s).drop 3) = Q := ⟨_, rfl⟩
      have hQl : Q.length ≤ 1000 := by rw [← hQ]; have := rs_len ((ls s).drop 3); rw [List.length_drop, ls_len] at this; omega
      rw [hQ] at hraw
      obtain ⟨X, hX⟩ : ∃ X, ByteArray.mk Q.toArray = X := ⟨_, rfl⟩
      have hXl : ls X = Q := by rw [← hX, mk_ls]
      have hXz : X.size ≤ 1000 := by rw [← hX, mk_size]; exact hQl
      obtain ⟨V, hV⟩ : ∃ V, ByteArray.mk (bv Q).toArray = V := ⟨_, rfl⟩
      have hVz : V.size = (bv Q).length := by rw [← hV, mk_size]
      have cR : ∀ w, Ml w → Calls Tryd.prog 32 #[.string A, .string ⟨#[92, 34, 34, 34]⟩, .string ⟨#[34, 34, 34]⟩] w fun e w' => e = .returned (.string X) ∧ Below w.heap.size w w' := fun w hm => by
        obtain ⟨m, hm0⟩ := hm
        have := Tryd.strings_ReplaceAll A ⟨#[92, 34, 34, 34]⟩ ⟨#[34, 34, 34]⟩ m w (by omega) hm0 (by decide) (by have := countB_small A ⟨#[92, 34, 34, 34]⟩; show _ + _ * 3 ≤ _; omega)
        rw [show (ByteArray.mk #[92, 34, 34, 34]).data.toList = [92, 34, 34, 34] from rfl, show (ByteArray.mk #[34, 34, 34]).data.toList = [34, 34, 34] from rfl, hraw, hX] at this
        exact this
      have cV : ∀ w, Ml w → Calls Tryd.prog 16 #[.string X] w fun e w' => e = .returned (.string V) ∧ Below w.heap.size w w' := fun w hm => by
        have := bvI X w (by omega) hm
        rw [hXl, hV] at this
        exact this
      have hE : (V.size ≤ 200 ∧ btx s = (bv Q, true)) ∨ (¬ V.size ≤ 200 ∧ btx s = ([], false)) := by
        by_cases h5 : (bv Q).length ≤ 200
        · left; refine ⟨by omega, ?_⟩; rw [← hQ] at h5 ⊢; exact btx_ok h1 h2 h3 h4 h5
        · right; refine ⟨by omega, ?_⟩; rw [← hQ] at h5; exact btx_much h5
      have HV := Lib.hid hV
      have HE := Lib.hid hE
      have k1 : (0 : Int) ≤ 3 := by decide
      have k2 : (3 : Int) ≤ (s.size : Int) - 3 := by omega
      have k3 : (s.size : Int) - 3 ≤ (s.size : Int) := by omega
      have k4 : ((s.size : Int) - 3).toNat = s.size - 3 := by omega
      clear hV hE hVz hXl hX hQ hraw h2 h3 h4 hXz hQl hrz
      go_enter Tryd.func15, Tryd.ntmps15
      go_wp2_with fail
      refine cE.mono ?_
      rintro e w1 ⟨rfl, rfl⟩
      go_wp2_with fail
      refine cO.mono ?_
      rintro e w1 ⟨rfl, hb1⟩
      go_wp2_with fail
      refine (cB _).mono ?_
      rintro e w2 ⟨rfl, hb2⟩
      have hb12 := hb1.trans (hb2.mono hb1.size)
      have hm2 := ml_below hm hb12
      go_wp2_with fail
      refine (cR _ hm2).mono ?_
      rintro e w3 ⟨rfl, hb3⟩
      have hb13 := hb12.trans (hb3.mono hb12.size)
      have hm3 := ml_below hm hb13
      go_wp2_with fail
      refine (cV _ hm3).mono ?_
      rintro e w4 ⟨rfl, hb4⟩
      have hb14 := hb13.trans (hb4.mono hb13.size)
      rcases HE.out with ⟨h5, h6⟩ | ⟨h5, h6⟩
      · have h5' : ¬ (200 : Int) < (V.size : Int) := by omega
        have H6 := Lib.hid h6
        clear HE h6 h5
        go_wp2_with fail
        go_ret2
        exact ⟨by rw [H6.out, HV.out]; rfl, hb14⟩
      · have h5' : (200 : Int) < (V.size : Int) := by omega
        have H6 := Lib.hid h6
        clear HE h6 h5
        go_wp2_with fail
        go_ret2
        exact ⟨by rw [H6.out]; rfl, hb14⟩
end Go.Proofs.YtaafgcnkedaonaaDoor
