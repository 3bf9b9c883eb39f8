/- What is proved: the model's VarsIn answers the variables in a value, in new memory. -/
import Derived.Test.YtjlabdnjdokpnaaRVc
namespace Go.Proofs.YtjlabdnjdokpnaaR
namespace Va
open Go.RowKit
attribute [local go_sem ↓] Go.wp_at_zero Go.wp_at_succ

theorem info9v : (Try.prog.info? 9).map (fun i => (i.zero, i.size, i.bytes)) = some (some (.string ⟨#[]⟩), 1, 16) := by kernel_rfl
/-- A row of names. -/
def Row (w : World) (B g : Nat) (c : Nat) (L : List ByteArray) : Prop := w.ownsRow B 9 1 (.slice (some ⟨g, 0, none⟩) L.length c) L.length (strB L)

theorem grown_trans {a b c : World} {g g1 : Nat} (h : a.grownBy b (some g)) (h1 : b.grownBy c (some g1)) (hg : g1 = g ∨ a.heap.size ≤ g1) : a.grownBy c (some g) := by
  have hs := h.size
  refine ⟨h1.os.trans h.os, h1.tape.trans h.tape, h1.output.trans h.output, Nat.le_trans h.size h1.size, fun k hk hne => ?_⟩
  rw [h1.block k (by omega) (fun e => by
    have e' : k = g1 := Option.some.inj e
    rcases hg with hg | hg
    · exact hne (by rw [e', hg])
    · omega)]
  exact h.block k hk hne
theorem below_grown {a b : World} (g : Nat) (h : Below a.heap.size a b) : a.grownBy b (some g) := ⟨h.os, h.tape, h.output, h.size, fun k hk _ => h.block k hk⟩

/-- The contract of one value: w0 is the world in which it lies. -/
def VrOne (v : V) : Prop := ∀ (w0 w : World) (c0 c1 c2 c3 : Value) (g c : Nat) (L : List ByteArray), L.length + nodes v ≤ 4194304 → At w0 v c0 c1 c2 c3 → Below w0.heap.size w0 w → Row w w0.heap.size g c L →
  Calls Try.prog 26 #[.agg #[c0, c1, c2, c3], .slice (some ⟨g, 0, none⟩) L.length c] w fun e w' => ∃ g' c', e = .returned (.slice (some ⟨g', 0, none⟩) (vars v L).length c') ∧ Row w' w0.heap.size g' c' (vars v L) ∧ w.grownBy w' (some g) ∧ (g' = g ∨ w.heap.size ≤ g')

set_option maxHeartbeats 4000000 in
theorem vrStep (k : Int) (t : ByteArray) (n : Nat) (it : Nat → V) (m : Nat) (nm : Nat → ByteArray) (hit : ∀ i, i < n → VrOne (it i)) : VrOne (.mk k t n it m nm) := by
  intro w0 w c0 c1 c2 c3 g c L hlen h hbel hrow
  obtain ⟨rfl, rfl, ht, hI, -⟩ := At_mk.1 h
  clear h
  have hI0 := hI
  obtain ⟨A, cap, rfl, hn, -⟩ := hI
  unfold maxLen at hn
  rw [nodes_mk] at hlen
  have HRow := Lib.hid hrow
  have hgB : w0.heap.size ≤ g := (own_block hrow).1
  have hcL : L.length ≤ c ∧ c ≤ maxLen := by
    rcases hrow.2 with ⟨h, -⟩ | ⟨g', cap', cur, hv, hB, hg, h1, h2, h3, h4⟩
    · cases h
    · simp only [Value.slice.injEq, Option.some.injEq, Addr.mk.injEq, true_and, and_true] at hv
      omega
  have ba := below_alloc w (Obj.cells #[.int .i64 k, .string t, .slice A n cap, c3] 30)
  by_cases hk : k = 1
  · subst hk
    rw [vars_var]
    have hrow1 := own_below hrow ba
    clear hrow
    go_enter Try.func26, Try.ntmps26
    go_wp2
    go_loopw [5] (fun i wr => ∃ p d : Nat, p ≤ L.length ∧ i = .int .i64 p ∧ wr = (w.alloc (Obj.cells #[.int .i64 1, .string t, .slice A n cap, c3] 30)).drewN d ∧ t ∉ L.take p) (fun i _ => L.length - (intOf i).toNat)
    case atStart => exact ⟨0, 0, Nat.zero_le _, rfl, rfl, by simp⟩
    case round =>
      obtain ⟨p, d, hp, rfl, rfl, hno⟩ := hrel
      have HNo := Lib.hid hno
      clear hno
      obtain ⟨W1, hW1⟩ : ∃ W1, w.alloc (Obj.cells #[.int .i64 1, .string t, .slice A n cap, c3] 30) = W1 := ⟨_, rfl⟩
      rw [hW1] at ba hrow1
      have hb0 : W1.heap[w.heap.size]? = some (Obj.cells #[.int .i64 1, .string t, .slice A n cap, c3] 30) := by rw [← hW1]; exact heap_alloc_new w _
      have b1 : W1.cell? ⟨w.heap.size, 1, none⟩ = some (.string t) := by rw [cell_of hb0]; rfl
      have HB0 := Lib.hid hb0
      have hz : W1.heap.size = w.heap.size + 1 := by rw [← hW1]; simp
      rw [hW1]
      clear hb0 hW1
      by_cases hlt : p < L.length
      · have k0 : (0 : Int) ≤ (p : Int) := by omega
        have k1 : (p : Int) < (L.length : Int) := by omega
        have hcell : W1.cell? ⟨g, p, none⟩ = some (.string (L[p])) := (hrow1.cellAt p (by omega)).trans (strB_at L p hlt)
        by_cases hx : L[p] = t
        · have hx2 := str_eq hx
          have HX := Lib.hid hx
          clear hx
          go_wp2
          go_quiet (fail)
          go_wp2
          go_ret
          have hin : t ∈ L := by have := HX.out; rw [← this]; exact List.getElem_mem hlt
          have e : add t L = L := by simp [add, hin]
          rw [e]
          exact ⟨g, c, rfl, hrow1, below_grown g (below_trans ba (below_trans (below_drewN _ _) (below_drewN _ _))), .inl rfl⟩
        · have hx2 := str_ne hx
          have HX := Lib.hid hx
          clear hx
          go_wp2
          go_quiet (fail)
          go_wp2
          go_roundw
          case rel =>
            refine ⟨p + 1, _, by omega, by go_num, rfl, ?_⟩
            rw [List.take_succ_eq_append_getElem hlt, List.mem_append]
            rintro (h | h)
            · exact HNo.out h
            · simp at h; exact HX.out h.symm
          case measure => simp [intOf]; omega
      · obtain rfl : p = L.length := by omega
        have hnin : t ∉ L := by have := HNo.out; rwa [List.take_length] at this
        have e : add t L = L ++ [t] := by simp [add, hnin]
        have HE := Lib.hid e
        obtain ⟨i0, hi, hzz⟩ := Option.map_eq_some_iff.1 info9v
        simp only [Prod.mk.injEq] at hzz
        obtain ⟨hz0, hz1, hz2⟩ := hzz
        have n1 : ∀ u ∈ [Value.string t], u.oneCell' = true := by intro u hu; simp at hu; subst hu; rfl
        have n2 : L.length + 1 ≤ maxLen := by unfold maxLen; omega
        have hrowD : (W1.drewN d).ownsRow w0.heap.size 9 1 (.slice (some ⟨g, 0, none⟩) L.length c) L.length (strB L) := hrow1
        have hsz := hbel.size
        have HZ := Lib.hid hz
        have hzw : w.heap.size ≤ W1.heap.size := by omega
        clear hrow1 e hnin hz
        go_wp2_with (at_builtin; refine wpList_append_lies _ rfl _ _ 23 rfl w0.heap.size 9 i0 (.string ⟨#[]⟩) 1 16 Try.underlying23 hi hz0 hz1 hz2 rfl (by decide) _ _ _ rfl (hrowD.alloc _) ⟨W1.heap.size, 0, none⟩ 1 1 [.string t] rfl rfl (World.news_of_block (cs := #[.string t]) (t := 9) (fr := (0, 0)) (heap_alloc_new (W1.drewN d) _)) n1 (by decide) n2 (by omega) (by simp; omega) (W1.heap.size + 1) (by simp) ?_)
        intro g2 cap2 w2 hown2 hgrow hat hlt2
        go_wp2
        go_ret
        have e := HE.out
        refine ⟨g2, cap2, by rw [e]; simp, ?_, ?_, ?_⟩
        · unfold Row; rw [e]; simpa [strB] using hown2
        · exact grown_trans (below_grown g (below_trans ba (below_trans (below_drewN W1 d) (below_alloc (W1.drewN d) _)))) hgrow (.inl rfl)
        · rcases hat with h | h
          · simp only [Value.ownBlock, Option.some.injEq] at h; exact .inl h.symm
          · exact .inr (by have := HZ.out; omega)
  · rw [vars_many hk]
    have hk2 : (k == 1) = false := by simpa using hk
    obtain ⟨W1, hW1⟩ : ∃ W1, w.alloc (Obj.cells #[.int .i64 k, .string t, .slice A n cap, c3] 30) = W1 := ⟨_, rfl⟩
    rw [hW1] at ba
    have hb0 : W1.heap[w.heap.size]? = some (Obj.cells #[.int .i64 k, .string t, .slice A n cap, c3] 30) := by rw [← hW1]; exact heap_alloc_new w _
    have hz : W1.heap.size = w.heap.size + 1 := by rw [← hW1]; simp
    have HB0 := Lib.hid hb0
    have HRow1 := Lib.hid (own_below hrow ba)
    have hgw : g < w.heap.size := by obtain ⟨_, cur, hg⟩ := own_block hrow; exact lt_of hg
    have hs0 := hbel.size
    have b0 : W1.cell? ⟨w.heap.size, 0, none⟩ = some (.int .i64 k) := by rw [cell_of hb0]; rfl
    clear hrow hb0
    go_enter Try.func26, Try.ntmps26
    go_wp2
    clear b0
    go_loopw [1, 6] (fun q i wr => ∃ p g1 c1 : Nat, p ≤ n ∧ i = .int .i64 p ∧ q = .slice (some ⟨g1, 0, none⟩) (foldTo (fun i => vars (it i)) p L).length c1 ∧ Row wr w0.heap.size g1 c1 (foldTo (fun i => vars (it i)) p L) ∧ W1.grownBy wr (some g) ∧ (g1 = g ∨ W1.heap.size ≤ g1)) (fun _ i _ => n - (intOf i).toNat)
    case atStart => exact ⟨0, g, c, Nat.zero_le _, rfl, rfl, HRow1.out, below_grown g (Below.refl _ _), .inl rfl⟩
    case round =>
      obtain ⟨p, g1, c1, hp, rfl, rfl, hrow, hgr, hg1⟩ := hrel
      have hbw : Below w0.heap.size w0 wr := ((hbel.trans (ba.mono hs0))).grown hgr (by omega) (fun k hk => by have := Option.some.inj hk; omega)
      have hbox : wr.heap[w.heap.size]? = some (Obj.cells #[.int .i64 k, .string t, .slice A n cap, c3] 30) := (hgr.block _ (by omega) (fun e => by have := Option.some.inj e; omega)).trans HB0.out
      have b2 : wr.cell? ⟨w.heap.size, 2, none⟩ = some (.slice A n cap) := by rw [cell_of hbox]; rfl
      clear hbox
      obtain ⟨F, hF⟩ : ∃ F, foldTo (fun i => vars (it i)) p L = F := ⟨_, rfl⟩
      rw [hF] at hrow
      rw [hF]
      have HF := Lib.hid hF
      clear hF
      by_cases hlt : p < n
      · have k0 : (0 : Int) ≤ (p : Int) := by omega
        have k1 : (p : Int) < (n : Int) := by omega
        obtain ⟨A1, cap1, e1, -, hc⟩ := hI0
        obtain ⟨b, o, d0, d1, d2, d3, e2, hf, hat⟩ := hc p hlt
        simp only [Value.slice.injEq] at e1
        obtain ⟨e3, -, e4⟩ := e1
        subst e3 e4
        subst e2
        clear hc
        obtain ⟨f0, f1, f2, f3⟩ := hf.below hbw
        have hFl : F.length + nodes (it p) ≤ 4194304 := by
          have h1 := foldTo_length (fun i => vars (it i)) (fun i => nodes (it i)) p L fun i _ o => vars_length (it i) o
          rw [HF.out] at h1
          have h2 := sumTo_lt (fun i => nodes (it i)) hlt
          omega
        have cc := hit p hlt w0 wr d0 d1 d2 d3 g1 c1 F hFl hat hbw hrow
        have HX : Hid (foldTo (fun i => vars (it i)) (p + 1) L = vars (it p) F) := by show _ = _; rw [foldTo, HF.out]
        obtain ⟨X, hX⟩ : ∃ X, vars (it p) F = X := ⟨_, rfl⟩
        rw [hX] at cc HX
        clear hX
        go_wp2_with fail
        refine cc.mono ?_
        rintro e w1 ⟨g2, c2, rfl, hrow2, hgr2, hg2⟩
        have HR2 := Lib.hid hrow2
        have HG2 : Hid (W1.grownBy w1 (some g) ∧ (g2 = g ∨ W1.heap.size ≤ g2)) := by
          have := hgr.size
          exact ⟨grown_trans hgr hgr2 hg1, by rcases hg2 with h | h <;> rcases hg1 with h' | h' <;> omega⟩
        clear hrow2 hgr2 cc hrow
        go_wp2
        go_roundw
        case rel => exact ⟨p + 1, g2, c2, by omega, by go_num, by rw [HX.out], by rw [HX.out]; exact HR2.out, HG2.out.1, HG2.out.2⟩
        case measure => simp [intOf]; omega
      · obtain rfl : p = n := by omega
        go_wp2
        go_ret
        rw [HF.out]
        exact ⟨g1, c1, rfl, hrow, grown_trans (below_grown g ba) hgr (.inl rfl), by rcases hg1 with h | h <;> omega⟩

theorem vrV : ∀ v : V, VrOne v
  | .no => fun _ _ _ _ _ _ _ _ _ _ h => h.elim
  | .mk k t n it m nm => vrStep k t n it m nm fun i _ => vrV (it i)

/-- The model's VarsIn. -/
theorem varsS (v : V) (w : World) (c0 c1 c2 c3 : Value) (hs : nodes v ≤ 4194304) (h : At w v c0 c1 c2 c3) :
    Calls Try.prog 13 #[.agg #[c0, c1, c2, c3]] w fun e w' => ∃ g c, e = .returned (.slice (some ⟨g, 0, none⟩) (vars v []).length c) ∧ Row w' w.heap.size g c (vars v []) ∧ Below w.heap.size w w' := by
  obtain ⟨y0, y1, y2, y3, y4, y5, y6, y7, rfl, rfl, rfl, rfl⟩ := At.form h
  go_enter Try.func13, Try.ntmps13
  go_wp2_with fail
  obtain ⟨W1, hW1⟩ : ∃ W1, (w.alloc (Obj.cells #[.int .i64 y0, .string y1, .slice y2 y4 y5, .slice y3 y6 y7] 30)).alloc (Obj.cells #[] 9) = W1 := ⟨_, rfl⟩
  have ba : Below w.heap.size w W1 := by rw [← hW1]; exact (below_alloc _ _).alloc (by simp) _
  have hrow : Row W1 w.heap.size (w.heap.size + 1) 0 [] := by
    have := World.ownsRow_lit (base := w.heap.size) (e := 9) (size := 1) (w.alloc (Obj.cells #[.int .i64 y0, .string y1, .slice y2 y4 y5, .slice y3 y6 y7] 30)) #[] 0 (by simp) (by decide) rfl
    rw [hW1] at this
    simpa [Row, strB] using this
  have hz : W1.heap.size = w.heap.size + 2 := by rw [← hW1]; simp
  rw [hW1]
  clear hW1
  refine (vrV v w W1 _ _ _ _ (w.heap.size + 1) 0 [] (by simpa using hs) h ba hrow).mono ?_
  rintro e w1 ⟨g, c, rfl, hrow2, hgr, -⟩
  have hb : Below w.heap.size w w1 := ba.grown hgr (by omega) (fun k hk => by have := Option.some.inj hk; omega)
  go_wp2
  go_ret
  exact ⟨g, c, rfl, hrow2, hb⟩
end Va
end Go.Proofs.YtjlabdnjdokpnaaR
