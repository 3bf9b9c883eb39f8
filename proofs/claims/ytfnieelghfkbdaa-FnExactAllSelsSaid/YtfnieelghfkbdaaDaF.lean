/- What is proved: lists as rows of cells behind one another, nothing appended, and the library's Clone: the same cells in a new row. -/
import Derived.Test.YtfnieelghfkbdaaDaL
import Derived.Deep.Upon
import Derived.Deep.RegionWith
namespace Go.Proofs.Ytfnieelghfkbdaa
namespace Da
set_option linter.unusedVariables false
open Go.RowKit Go.Deep Go.WideShapes
attribute [local go_sem ↓] Go.wp_at_zero Go.wp_at_succ

theorem At.one {w : World} : ∀ {d : D} {c : Value}, At w d c → c.oneCell' = true
  | .int _, c, h => by
    obtain rfl : c = _ := h
    rfl
  | .str _, c, h => by
    obtain ⟨rfl, -⟩ := h
    rfl
  | .bool _, c, h => by
    obtain rfl : c = _ := h
    rfl
  | .list _ _ _, c, h => by
    obtain ⟨A, cap, rfl, -⟩ := h
    rfl

/-- The cells of a list, behind one another. -/
theorem At.flat {w : World} {W n cap : Nat} {it : Nat → Nat → D} {A : Option Addr} (hW : 0 < W) (h : At w (.list W n it) (.slice A n cap)) :
    ∃ xs : List Value, xs.length = n * W ∧ (∀ u ∈ xs, u.oneCell' = true) ∧ (0 < n → ∃ b o, A = some ⟨b, o, none⟩ ∧ ∀ j u, xs[j]? = some u → w.cell? ⟨b, o + j, none⟩ = some u) ∧ ∀ i, i < n → ∀ j, j < W → ∃ d, xs[i * W + j]? = some d ∧ At w (it i j) d := by
  rcases Nat.eq_zero_or_pos n with h0 | h0
  · subst h0
    exact ⟨[], by simp, fun u hu => by simp at hu, fun h => absurd h (Nat.lt_irrefl _), fun i hi => absurd hi (Nat.not_lt_zero _)⟩
  obtain ⟨b, o, e, -⟩ := h.nth h0
  have each : ∀ q, q < n * W → ∃ v : Value, w.cell? ⟨b, o + q, none⟩ = some v ∧ At w (it (q / W) (q % W)) v := by
    intro q hq
    have hi : q / W < n := by rw [Nat.div_lt_iff_lt_mul hW]; exact hq
    obtain ⟨b', o', e', hc⟩ := h.nth hi
    rw [e] at e'
    simp only [Option.some.injEq, Addr.mk.injEq, and_true] at e'
    obtain ⟨rfl, rfl⟩ := e'
    obtain ⟨d, hd, ha⟩ := hc (q % W) (Nat.mod_lt _ hW)
    refine ⟨d, ?_, ha⟩
    have := Nat.div_add_mod q W
    rw [show o + q = o + q / W * W + q % W from by rw [Nat.mul_comm]; omega]
    exact hd
  haveI : Inhabited Value := ⟨.bool false⟩
  obtain ⟨f, hf⟩ := choose_lt each
  have hget : ∀ q, q < n * W → ((List.range (n * W)).map f)[q]? = some (f q) := fun q hq => by simp [hq]
  refine ⟨(List.range (n * W)).map f, by simp, fun u hu => ?_, fun _ => ⟨b, o, e, fun j u hu => ?_⟩, fun i hi j hj => ?_⟩
  · obtain ⟨q, hq, rfl⟩ := List.mem_map.1 hu
    exact At.one (hf q (List.mem_range.1 hq)).2
  · rcases Nat.lt_or_ge j (n * W) with hj | hj
    · rw [hget j hj] at hu
      obtain rfl : f j = u := by simpa using hu
      exact (hf j hj).1
    · rw [List.getElem?_eq_none (by simpa using hj)] at hu; cases hu
  · have hq : i * W + j < n * W := by
      have := Nat.mul_le_mul_right W (show i + 1 ≤ n from hi)
      rw [Nat.add_mul, Nat.one_mul] at this
      omega
    refine ⟨f (i * W + j), hget _ hq, ?_⟩
    have ha := (hf _ hq).2
    rwa [show (i * W + j) / W = i from by rw [Nat.mul_comm, Nat.mul_add_div hW, Nat.div_eq_of_lt hj, Nat.add_zero], show (i * W + j) % W = j from by rw [Nat.mul_comm, Nat.mul_add_mod, Nat.mod_eq_of_lt hj]] at ha

/-- Nothing is appended. -/
theorem app_none {t e : TypeId} {i : TypeInfo} (ht : Try.prog.underlying t = some (.slice e)) (hi : Try.prog.info? e = some i) (ty : TypeId) (base : Option Addr) (n c : Nat) (hle : n ≤ c) (A : Option Addr) (cap : Nat) (W : World) :
    (Builtin.append_ #[t, t] ty #[.slice base n c, .slice A 0 cap]).run Try.prog W = .ok (.slice base n c) W := by
  refine run_append_nothing W t t ty e i ht hi base n c hle _ ?_
  cases A with
  | none => exact Src.ofNil W ht cap
  | some a => exact Src.ofSlice W ht a 0 cap [] (by simp) (fun j u h => by simp at h) (fun u h => by simp at h)

/-- Nothing is appended, at a step of a region that draws its order. -/
theorem step_app_none {ops : Array Oper} {o : Oper} {a : Act} {K : Act → World → Prop} {Q : Exit → Act → World → Prop} {E : Prop} {w : World} (hgd : o.guard = none) (s x : Operand) (t : TypeId)
    (ho : o.op = .call { callee := .builtin .append, args := #[s, x], argTypes := #[t, t] }) (v u : Value) (hs : a.eval s = v) (hx : a.eval x = u)
    (hr : ∀ ty, (Builtin.append_ #[t, t] ty #[v, u]).run Try.prog w = .ok v w) (h : K (a.put o.dst v) w) :
    if Region.wanted o (yielded ops a.tmps) = true then Oper.wp Try.prog o a w K Q else E := by
  rw [if_pos (by simp [Region.wanted, hgd])]
  unfold Oper.wp execOp
  simp only [ho, resolve, invoke, builtin, Sem.run_bind, Sem.run_pure, Result.andThen_ok, List.map_toArray, List.map_cons, List.map_nil, hs, hx, hr]
  exact h

end Da
end Go.Proofs.Ytfnieelghfkbdaa
