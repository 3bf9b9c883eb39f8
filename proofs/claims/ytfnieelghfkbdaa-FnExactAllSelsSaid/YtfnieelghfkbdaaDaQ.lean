/- What is proved: the library's Clone: the same cells, in a row of its own. (Made by tools/mkdaq.py.) -/
import Derived.Test.YtfnieelghfkbdaaDaF
namespace Go.Proofs.Ytfnieelghfkbdaa
namespace Da
set_option linter.unusedVariables false
open Go.RowKit
attribute [local go_sem ↓] Go.wp_at_zero Go.wp_at_succ

/-- Nothing is appended, at the list of a plain region's operations. -/
theorem list_app_none {ops : Array Oper} {rest : List Oper} {o : Oper} {a : Act} {Q : Exit → Act → World → Prop} {w : World} (hgd : o.guard = none) (s x : Operand) (t : TypeId)
    (ho : o.op = .call { callee := .builtin .append, args := #[s, x], argTypes := #[t, t] }) (v u : Value) (hs : a.eval s = v) (hx : a.eval x = u)
    (hr : ∀ ty, (Builtin.append_ #[t, t] ty #[v, u]).run Try.prog w = .ok v w) (h : wpList Try.prog ops Q rest (a.put o.dst v) w) : wpList Try.prog ops Q (o :: rest) a w := by
  refine wpList_plain hgd fun K hK => ?_
  unfold Oper.wp execOp
  simp only [ho, resolve, invoke, builtin, Sem.run_bind, Sem.run_pure, Result.andThen_ok, List.map_toArray, List.map_cons, List.map_nil, hs, hx, hr]
  exact hK _ _ h
/-- The contract of a clone: the cells xs, n rows of W, in a row of its own. -/
def Cln (fid : Nat) (ty : TypeId) (W : Nat) : Prop := ∀ (w : World) (A : Option Addr) (n cap : Nat) (xs : List Value), n ≤ 1048576 → xs.length = n * W → (∀ u ∈ xs, u.oneCell' = true) → (0 < n → ∃ b o, A = some ⟨b, o, none⟩ ∧ ∀ j u, xs[j]? = some u → w.cell? ⟨b, o + j, none⟩ = some u) →
  Calls Try.prog fid #[.slice A n cap] w fun e w' => ∃ B c, e = .returned (.slice B n c) ∧ w'.ownsRow w.heap.size ty W (.slice B n c) n xs ∧ Below w.heap.size w w'

set_option maxRecDepth 100000 in
set_option maxHeartbeats 1000000 in
theorem clnString : Cln 67 9 1 := by
  intro w A n cap xs hn hl h1 hc
  cases A with
  | none =>
    obtain rfl : n = 0 := by
      rcases Nat.eq_zero_or_pos n with h | h
      · exact h
      · obtain ⟨b, o, e, -⟩ := hc h; cases e
    obtain rfl : xs = [] := List.eq_nil_of_length_eq_zero (by omega)
    have hq : ∀ W, (binOp .eql 66 (.slice none 0 cap) (.slice none 0 0)).run Try.prog W = .ok (.bool true) W := fun W => Lib.run_eql_slice_nil W 66 _ none 0 cap 0 0 undN
    go_enter Try.func67, Try.ntmps67
    go_wp2
    go_ret
    exact ⟨none, 0, rfl, ⟨rfl, .inl ⟨rfl, rfl⟩⟩, Below.refl _ _⟩
  | some a =>
    obtain ⟨i0, hi, hzz⟩ := Option.map_eq_some_iff.1 info9
    simp only [Prod.mk.injEq] at hzz
    obtain ⟨hz0, hz1, hz2⟩ := hzz
    have hq : ∀ W, (binOp .eql 66 (.slice (some a) n cap) (.slice none 0 0)).run Try.prog W = .ok (.bool false) W := fun W => Lib.run_eql_slice_nil W 66 _ (some a) n cap 0 0 undN
    by_cases h0 : n = 0
    · subst h0
      obtain rfl : xs = [] := List.eq_nil_of_length_eq_zero (by omega)
      have hap := Lib.hid (app_none undN hi)
      go_enter Try.func67, Try.ntmps67
      go_wp2_with (at_builtin; refine list_app_none rfl _ _ 66 rfl (.slice (some ⟨w.heap.size, 0, none⟩) 0 0) (.slice (some a) 0 cap) rfl rfl (fun ty => hap.out ty _ 0 0 (Nat.le_refl _) _ cap _) ?_)
      go_wp2
      go_ret
      exact ⟨_, _, rfl, Lst.row (it := fun _ _ => .no) (Lst.zero (Nat.le_refl _) (heap_alloc_new w _)), below_alloc _ _⟩
    · obtain ⟨b, o, e, hcells⟩ := hc (by omega)
      obtain rfl : a = ⟨b, o, none⟩ := by simpa using e
      have HC : Hid (∀ j u, xs[j]? = some u → (w.alloc (Obj.cells #[] 9)).cell? ((⟨b, o, none⟩ : Addr).add j) = some u) := fun j u hu => by
        have h := hcells j u hu
        rw [Go.WideShapes.add_plain]
        exact ((below_alloc w _).cell (World.block_lt_of_cell? w _ h)).trans h
      clear hcells hc
      go_enter Try.func67, Try.ntmps67
      go_wp2_with (at_builtin; refine wpList_append_lies _ rfl _ _ 66 rfl w.heap.size 9 i0 (.string ⟨#[]⟩) 1 16 Try.underlying66 hi hz0 hz1 hz2 rfl (by decide) (.slice (some ⟨w.heap.size, 0, none⟩) 0 0) 0 [] rfl (Lst.row (it := fun _ _ => .no) (Lst.zero (Nat.le_refl _) (heap_alloc_new w _))) ⟨b, o, none⟩ n cap xs rfl hl HC.out h1 (by omega) (by unfold maxLen; omega) (by omega) (by simp) (w.heap.size + 1) (by simp) ?_)
      intro g2 cap2 w2 hown2 hgrow hat2 hlt2
      have hb9 := (below_alloc w (Obj.cells #[] 9)).grown hgrow (by simp) (fun x hx => Nat.le_of_eq (by simpa [Value.ownBlock] using hx))
      have HO := Lib.hid hown2
      clear hown2 hgrow hat2
      go_wp2
      go_ret
      exact ⟨_, _, rfl, HO.out, hb9⟩

set_option maxRecDepth 100000 in
set_option maxHeartbeats 1000000 in
theorem clnValue : Cln 66 68 4 := by
  intro w A n cap xs hn hl h1 hc
  cases A with
  | none =>
    obtain rfl : n = 0 := by
      rcases Nat.eq_zero_or_pos n with h | h
      · exact h
      · obtain ⟨b, o, e, -⟩ := hc h; cases e
    obtain rfl : xs = [] := List.eq_nil_of_length_eq_zero (by omega)
    have hq : ∀ W, (binOp .eql 65 (.slice none 0 cap) (.slice none 0 0)).run Try.prog W = .ok (.bool true) W := fun W => Lib.run_eql_slice_nil W 65 _ none 0 cap 0 0 undsValue
    go_enter Try.func66, Try.ntmps66
    go_wp2
    go_ret
    exact ⟨none, 0, rfl, ⟨rfl, .inl ⟨rfl, rfl⟩⟩, Below.refl _ _⟩
  | some a =>
    obtain ⟨i0, hi, hzz⟩ := Option.map_eq_some_iff.1 infoValue
    simp only [Prod.mk.injEq] at hzz
    obtain ⟨hz0, hz1, hz2⟩ := hzz
    have hq : ∀ W, (binOp .eql 65 (.slice (some a) n cap) (.slice none 0 0)).run Try.prog W = .ok (.bool false) W := fun W => Lib.run_eql_slice_nil W 65 _ (some a) n cap 0 0 undsValue
    by_cases h0 : n = 0
    · subst h0
      obtain rfl : xs = [] := List.eq_nil_of_length_eq_zero (by omega)
      have hap := Lib.hid (app_none undsValue hi)
      go_enter Try.func66, Try.ntmps66
      go_wp2_with (at_builtin; refine list_app_none rfl _ _ 65 rfl (.slice (some ⟨w.heap.size, 0, none⟩) 0 0) (.slice (some a) 0 cap) rfl rfl (fun ty => hap.out ty _ 0 0 (Nat.le_refl _) _ cap _) ?_)
      go_wp2
      go_ret
      exact ⟨_, _, rfl, Lst.row (it := fun _ _ => .no) (Lst.zero (Nat.le_refl _) (heap_alloc_new w _)), below_alloc _ _⟩
    · obtain ⟨b, o, e, hcells⟩ := hc (by omega)
      obtain rfl : a = ⟨b, o, none⟩ := by simpa using e
      have HC : Hid (∀ j u, xs[j]? = some u → (w.alloc (Obj.cells #[] 68)).cell? ((⟨b, o, none⟩ : Addr).add j) = some u) := fun j u hu => by
        have h := hcells j u hu
        rw [Go.WideShapes.add_plain]
        exact ((below_alloc w _).cell (World.block_lt_of_cell? w _ h)).trans h
      clear hcells hc
      go_enter Try.func66, Try.ntmps66
      go_wp2_with (at_builtin; refine wpList_append_lies _ rfl _ _ 65 rfl w.heap.size 68 i0 zeroValue 4 72 Try.underlying65 hi hz0 hz1 hz2 rfl (by decide) (.slice (some ⟨w.heap.size, 0, none⟩) 0 0) 0 [] rfl (Lst.row (it := fun _ _ => .no) (Lst.zero (Nat.le_refl _) (heap_alloc_new w _))) ⟨b, o, none⟩ n cap xs rfl hl HC.out h1 (by omega) (by unfold maxLen; omega) (by omega) (by simp) (w.heap.size + 1) (by simp) ?_)
      intro g2 cap2 w2 hown2 hgrow hat2 hlt2
      have hb9 := (below_alloc w (Obj.cells #[] 68)).grown hgrow (by simp) (fun x hx => Nat.le_of_eq (by simpa [Value.ownBlock] using hx))
      have HO := Lib.hid hown2
      clear hown2 hgrow hat2
      go_wp2
      go_ret
      exact ⟨_, _, rfl, HO.out, hb9⟩

set_option maxRecDepth 100000 in
set_option maxHeartbeats 1000000 in
theorem clnArg : Cln 54 70 5 := by
  intro w A n cap xs hn hl h1 hc
  cases A with
  | none =>
    obtain rfl : n = 0 := by
      rcases Nat.eq_zero_or_pos n with h | h
      · exact h
      · obtain ⟨b, o, e, -⟩ := hc h; cases e
    obtain rfl : xs = [] := List.eq_nil_of_length_eq_zero (by omega)
    have hq : ∀ W, (binOp .eql 38 (.slice none 0 cap) (.slice none 0 0)).run Try.prog W = .ok (.bool true) W := fun W => Lib.run_eql_slice_nil W 38 _ none 0 cap 0 0 undsArg
    go_enter Try.func54, Try.ntmps54
    go_wp2
    go_ret
    exact ⟨none, 0, rfl, ⟨rfl, .inl ⟨rfl, rfl⟩⟩, Below.refl _ _⟩
  | some a =>
    obtain ⟨i0, hi, hzz⟩ := Option.map_eq_some_iff.1 infoArg
    simp only [Prod.mk.injEq] at hzz
    obtain ⟨hz0, hz1, hz2⟩ := hzz
    have hq : ∀ W, (binOp .eql 38 (.slice (some a) n cap) (.slice none 0 0)).run Try.prog W = .ok (.bool false) W := fun W => Lib.run_eql_slice_nil W 38 _ (some a) n cap 0 0 undsArg
    by_cases h0 : n = 0
    · subst h0
      obtain rfl : xs = [] := List.eq_nil_of_length_eq_zero (by omega)
      have hap := Lib.hid (app_none undsArg hi)
      go_enter Try.func54, Try.ntmps54
      go_wp2_with (at_builtin; refine list_app_none rfl _ _ 38 rfl (.slice (some ⟨w.heap.size, 0, none⟩) 0 0) (.slice (some a) 0 cap) rfl rfl (fun ty => hap.out ty _ 0 0 (Nat.le_refl _) _ cap _) ?_)
      go_wp2
      go_ret
      exact ⟨_, _, rfl, Lst.row (it := fun _ _ => .no) (Lst.zero (Nat.le_refl _) (heap_alloc_new w _)), below_alloc _ _⟩
    · obtain ⟨b, o, e, hcells⟩ := hc (by omega)
      obtain rfl : a = ⟨b, o, none⟩ := by simpa using e
      have HC : Hid (∀ j u, xs[j]? = some u → (w.alloc (Obj.cells #[] 70)).cell? ((⟨b, o, none⟩ : Addr).add j) = some u) := fun j u hu => by
        have h := hcells j u hu
        rw [Go.WideShapes.add_plain]
        exact ((below_alloc w _).cell (World.block_lt_of_cell? w _ h)).trans h
      clear hcells hc
      go_enter Try.func54, Try.ntmps54
      go_wp2_with (at_builtin; refine wpList_append_lies _ rfl _ _ 38 rfl w.heap.size 70 i0 zeroArg 5 88 Try.underlying38 hi hz0 hz1 hz2 rfl (by decide) (.slice (some ⟨w.heap.size, 0, none⟩) 0 0) 0 [] rfl (Lst.row (it := fun _ _ => .no) (Lst.zero (Nat.le_refl _) (heap_alloc_new w _))) ⟨b, o, none⟩ n cap xs rfl hl HC.out h1 (by omega) (by unfold maxLen; omega) (by omega) (by simp) (w.heap.size + 1) (by simp) ?_)
      intro g2 cap2 w2 hown2 hgrow hat2 hlt2
      have hb9 := (below_alloc w (Obj.cells #[] 70)).grown hgrow (by simp) (fun x hx => Nat.le_of_eq (by simpa [Value.ownBlock] using hx))
      have HO := Lib.hid hown2
      clear hown2 hgrow hat2
      go_wp2
      go_ret
      exact ⟨_, _, rfl, HO.out, hb9⟩

set_option maxRecDepth 100000 in
set_option maxHeartbeats 1000000 in
theorem clnDir : Cln 56 74 2 := by
  intro w A n cap xs hn hl h1 hc
  cases A with
  | none =>
    obtain rfl : n = 0 := by
      rcases Nat.eq_zero_or_pos n with h | h
      · exact h
      · obtain ⟨b, o, e, -⟩ := hc h; cases e
    obtain rfl : xs = [] := List.eq_nil_of_length_eq_zero (by omega)
    have hq : ∀ W, (binOp .eql 39 (.slice none 0 cap) (.slice none 0 0)).run Try.prog W = .ok (.bool true) W := fun W => Lib.run_eql_slice_nil W 39 _ none 0 cap 0 0 undsDir
    go_enter Try.func56, Try.ntmps56
    go_wp2
    go_ret
    exact ⟨none, 0, rfl, ⟨rfl, .inl ⟨rfl, rfl⟩⟩, Below.refl _ _⟩
  | some a =>
    obtain ⟨i0, hi, hzz⟩ := Option.map_eq_some_iff.1 infoDir
    simp only [Prod.mk.injEq] at hzz
    obtain ⟨hz0, hz1, hz2⟩ := hzz
    have hq : ∀ W, (binOp .eql 39 (.slice (some a) n cap) (.slice none 0 0)).run Try.prog W = .ok (.bool false) W := fun W => Lib.run_eql_slice_nil W 39 _ (some a) n cap 0 0 undsDir
    by_cases h0 : n = 0
    · subst h0
      obtain rfl : xs = [] := List.eq_nil_of_length_eq_zero (by omega)
      have hap := Lib.hid (app_none undsDir hi)
      go_enter Try.func56, Try.ntmps56
      go_wp2_with (at_builtin; refine list_app_none rfl _ _ 39 rfl (.slice (some ⟨w.heap.size, 0, none⟩) 0 0) (.slice (some a) 0 cap) rfl rfl (fun ty => hap.out ty _ 0 0 (Nat.le_refl _) _ cap _) ?_)
      go_wp2
      go_ret
      exact ⟨_, _, rfl, Lst.row (it := fun _ _ => .no) (Lst.zero (Nat.le_refl _) (heap_alloc_new w _)), below_alloc _ _⟩
    · obtain ⟨b, o, e, hcells⟩ := hc (by omega)
      obtain rfl : a = ⟨b, o, none⟩ := by simpa using e
      have HC : Hid (∀ j u, xs[j]? = some u → (w.alloc (Obj.cells #[] 74)).cell? ((⟨b, o, none⟩ : Addr).add j) = some u) := fun j u hu => by
        have h := hcells j u hu
        rw [Go.WideShapes.add_plain]
        exact ((below_alloc w _).cell (World.block_lt_of_cell? w _ h)).trans h
      clear hcells hc
      go_enter Try.func56, Try.ntmps56
      go_wp2_with (at_builtin; refine wpList_append_lies _ rfl _ _ 39 rfl w.heap.size 74 i0 zeroDir 2 40 Try.underlying39 hi hz0 hz1 hz2 rfl (by decide) (.slice (some ⟨w.heap.size, 0, none⟩) 0 0) 0 [] rfl (Lst.row (it := fun _ _ => .no) (Lst.zero (Nat.le_refl _) (heap_alloc_new w _))) ⟨b, o, none⟩ n cap xs rfl hl HC.out h1 (by omega) (by unfold maxLen; omega) (by omega) (by simp) (w.heap.size + 1) (by simp) ?_)
      intro g2 cap2 w2 hown2 hgrow hat2 hlt2
      have hb9 := (below_alloc w (Obj.cells #[] 74)).grown hgrow (by simp) (fun x hx => Nat.le_of_eq (by simpa [Value.ownBlock] using hx))
      have HO := Lib.hid hown2
      clear hown2 hgrow hat2
      go_wp2
      go_ret
      exact ⟨_, _, rfl, HO.out, hb9⟩

set_option maxRecDepth 100000 in
set_option maxHeartbeats 1000000 in
theorem clnSel : Cln 49 41 7 := by
  intro w A n cap xs hn hl h1 hc
  cases A with
  | none =>
    obtain rfl : n = 0 := by
      rcases Nat.eq_zero_or_pos n with h | h
      · exact h
      · obtain ⟨b, o, e, -⟩ := hc h; cases e
    obtain rfl : xs = [] := List.eq_nil_of_length_eq_zero (by omega)
    have hq : ∀ W, (binOp .eql 24 (.slice none 0 cap) (.slice none 0 0)).run Try.prog W = .ok (.bool true) W := fun W => Lib.run_eql_slice_nil W 24 _ none 0 cap 0 0 undsSel
    go_enter Try.func49, Try.ntmps49
    go_wp2
    go_ret
    exact ⟨none, 0, rfl, ⟨rfl, .inl ⟨rfl, rfl⟩⟩, Below.refl _ _⟩
  | some a =>
    obtain ⟨i0, hi, hzz⟩ := Option.map_eq_some_iff.1 infoSel
    simp only [Prod.mk.injEq] at hzz
    obtain ⟨hz0, hz1, hz2⟩ := hzz
    have hq : ∀ W, (binOp .eql 24 (.slice (some a) n cap) (.slice none 0 0)).run Try.prog W = .ok (.bool false) W := fun W => Lib.run_eql_slice_nil W 24 _ (some a) n cap 0 0 undsSel
    by_cases h0 : n = 0
    · subst h0
      obtain rfl : xs = [] := List.eq_nil_of_length_eq_zero (by omega)
      have hap := Lib.hid (app_none undsSel hi)
      go_enter Try.func49, Try.ntmps49
      go_wp2_with (at_builtin; refine list_app_none rfl _ _ 24 rfl (.slice (some ⟨w.heap.size, 0, none⟩) 0 0) (.slice (some a) 0 cap) rfl rfl (fun ty => hap.out ty _ 0 0 (Nat.le_refl _) _ cap _) ?_)
      go_wp2
      go_ret
      exact ⟨_, _, rfl, Lst.row (it := fun _ _ => .no) (Lst.zero (Nat.le_refl _) (heap_alloc_new w _)), below_alloc _ _⟩
    · obtain ⟨b, o, e, hcells⟩ := hc (by omega)
      obtain rfl : a = ⟨b, o, none⟩ := by simpa using e
      have HC : Hid (∀ j u, xs[j]? = some u → (w.alloc (Obj.cells #[] 41)).cell? ((⟨b, o, none⟩ : Addr).add j) = some u) := fun j u hu => by
        have h := hcells j u hu
        rw [Go.WideShapes.add_plain]
        exact ((below_alloc w _).cell (World.block_lt_of_cell? w _ h)).trans h
      clear hcells hc
      go_enter Try.func49, Try.ntmps49
      go_wp2_with (at_builtin; refine wpList_append_lies _ rfl _ _ 24 rfl w.heap.size 41 i0 zeroSel 7 128 Try.underlying24 hi hz0 hz1 hz2 rfl (by decide) (.slice (some ⟨w.heap.size, 0, none⟩) 0 0) 0 [] rfl (Lst.row (it := fun _ _ => .no) (Lst.zero (Nat.le_refl _) (heap_alloc_new w _))) ⟨b, o, none⟩ n cap xs rfl hl HC.out h1 (by omega) (by unfold maxLen; omega) (by omega) (by simp) (w.heap.size + 1) (by simp) ?_)
      intro g2 cap2 w2 hown2 hgrow hat2 hlt2
      have hb9 := (below_alloc w (Obj.cells #[] 41)).grown hgrow (by simp) (fun x hx => Nat.le_of_eq (by simpa [Value.ownBlock] using hx))
      have HO := Lib.hid hown2
      clear hown2 hgrow hat2
      go_wp2
      go_ret
      exact ⟨_, _, rfl, HO.out, hb9⟩

end Da
end Go.Proofs.Ytfnieelghfkbdaa
