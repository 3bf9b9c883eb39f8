/- What is proved: plain facts on texts that are scalars one behind the other: each scalar comes back where its bytes begin; such a text is told right, and its scalars are these; with a wrong byte behind it it is told wrong. Used by the proof of FnRunesCardSaid. -/
import Derived.Test.YtaafgcnkedaonaaDoorCat
import Derived.Test.YtaafgcnkedaonaaDoorRo
namespace Go.Proofs.YtaafgcnkedaonaaDoor
open Go.Lib

theorem bt_mid (a b c : ByteArray) (j : Nat) (h : j < b.size) : bt (a ++ (b ++ c)) (a.size + j) = bt b j := by
  unfold bt
  rw [getb, getb]
  simp only [ByteArray.data_append, Array.toList_append, List.getD_eq_getElem?_getD]
  have ha : a.size = a.data.toList.length := by rw [Array.length_toList]; rfl
  have hb : b.size = b.data.toList.length := by rw [Array.length_toList]; rfl
  rw [List.getElem?_append_right (by omega), ha, Nat.add_sub_cancel_left, List.getElem?_append_left (by omega)]
theorem size_mid (a b c : ByteArray) : (a ++ (b ++ c)).size - a.size = b.size + c.size := by simp only [ByteArray.size_append]; omega

set_option maxHeartbeats 1000000 in
theorem decN_one {x : Int} {N b1 b2 b3 : Nat} (h0 : 0 ≤ x) (h1 : x < 128) : decodeN N x.toNat b1 b2 b3 = (x.toNat, 1) := by
  unfold decodeN; rw [if_pos (by omega)]
set_option maxHeartbeats 1000000 in
theorem decN_two {x : Int} {N b2 b3 : Nat} (h0 : 128 ≤ x) (h1 : x < 2048) (hN : 2 ≤ N) : decodeN N (192 + x / 64).toNat (128 + x % 64).toNat b2 b3 = (x.toNat, 2) := by
  unfold decodeN
  repeat' split
  all_goals first | (exfalso; omega) | (apply Prod.ext <;> simp only <;> omega)
set_option maxHeartbeats 1000000 in
theorem decN_three {x : Int} {N b3 : Nat} (h0 : 2048 ≤ x) (h1 : x < 65536) (hv : x < 55296 ∨ 57343 < x) (hN : 3 ≤ N) : decodeN N (224 + x / 4096).toNat (128 + x / 64 % 64).toNat (128 + x % 64).toNat b3 = (x.toNat, 3) := by
  unfold decodeN
  repeat' split
  all_goals first | (exfalso; omega) | (apply Prod.ext <;> simp only <;> omega)
set_option maxHeartbeats 2000000 in
theorem decN_four {x : Int} {N : Nat} (h0 : 65536 ≤ x) (h1 : x ≤ 1114111) (hN : 4 ≤ N) : decodeN N (240 + x / 262144).toNat (128 + x / 4096 % 64).toNat (128 + x / 64 % 64).toNat (128 + x % 64).toNat = (x.toNat, 4) := by
  unfold decodeN
  repeat' split
  all_goals first | (exfalso; omega) | (apply Prod.ext <;> simp only <;> omega)

theorem bt_lit (l : List UInt8) (j : Nat) : bt ⟨l.toArray⟩ j = (l.getD j 0).toNat := by unfold bt; rw [getb]
theorem u8 (k : Nat) (h : k < 256) : (UInt8.ofNat k).toNat = k := by rw [UInt8.toNat_ofNat']; omega

theorem dec_cat (a c : ByteArray) (x : Int) (hv : Utf8.valid x = true) : Utf8.decode (a ++ (rt x ++ c)) a.size = (x.toNat, rl x) := by
  have hb := valid_bounds hv
  have hsz := size_mid a (rt x) c
  have hm := bt_mid a (rt x) c
  rw [rt_size] at hsz hm
  rw [decode_at, hsz]
  show decodeN _ (bt (a ++ (rt x ++ c)) (a.size + 0)) (bt (a ++ (rt x ++ c)) (a.size + 1)) (bt (a ++ (rt x ++ c)) (a.size + 2)) (bt (a ++ (rt x ++ c)) (a.size + 3)) = _
  by_cases h1 : x < 128
  · have hr : rl x = 1 := by unfold rl; rw [if_pos hb, if_pos h1]
    rw [hr] at hm ⊢
    rw [hm 0 (by omega)]
    have e0 : bt (rt x) 0 = x.toNat := by rw [rt_one hv h1]; show bt ⟨[UInt8.ofNat x.toNat].toArray⟩ 0 = _; rw [bt_lit]; exact u8 _ (by omega)
    rw [e0]
    exact decN_one (by omega) h1
  · by_cases h2 : x < 2048
    · have hr : rl x = 2 := by unfold rl; rw [if_pos hb, if_neg h1, if_pos h2]
      rw [hr] at hm ⊢
      rw [hm 0 (by omega), hm 1 (by omega)]
      have e : rt x = ⟨[UInt8.ofNat (192 + x / 64).toNat, UInt8.ofNat (128 + x % 64).toNat].toArray⟩ := rt_two hv (by omega) h2
      have e0 : bt (rt x) 0 = (192 + x / 64).toNat := by rw [e, bt_lit]; exact u8 _ (by omega)
      have e1 : bt (rt x) 1 = (128 + x % 64).toNat := by rw [e, bt_lit]; exact u8 _ (by omega)
      rw [e0, e1]
      exact decN_two (by omega) h2 (by omega)
    · by_cases h3 : x < 65536
      · have hr : rl x = 3 := by unfold rl; rw [if_pos hb, if_neg h1, if_neg h2, if_pos h3]
        rw [hr] at hm ⊢
        rw [hm 0 (by omega), hm 1 (by omega), hm 2 (by omega)]
        have e : rt x = ⟨[UInt8.ofNat (224 + x / 4096).toNat, UInt8.ofNat (128 + x / 64 % 64).toNat, UInt8.ofNat (128 + x % 64).toNat].toArray⟩ := rt_three hv (by omega) h3
        have e0 : bt (rt x) 0 = (224 + x / 4096).toNat := by rw [e, bt_lit]; exact u8 _ (by omega)
        have e1 : bt (rt x) 1 = (128 + x / 64 % 64).toNat := by rw [e, bt_lit]; exact u8 _ (by omega)
        have e2 : bt (rt x) 2 = (128 + x % 64).toNat := by rw [e, bt_lit]; exact u8 _ (by omega)
        rw [e0, e1, e2]
        exact decN_three (by omega) h3 (by omega) (by omega)
      · have hr : rl x = 4 := by unfold rl; rw [if_pos hb, if_neg h1, if_neg h2, if_neg h3]
        rw [hr] at hm ⊢
        rw [hm 0 (by omega), hm 1 (by omega), hm 2 (by omega), hm 3 (by omega)]
        have e : rt x = ⟨[UInt8.ofNat (240 + x / 262144).toNat, UInt8.ofNat (128 + x / 4096 % 64).toNat, UInt8.ofNat (128 + x / 64 % 64).toNat, UInt8.ofNat (128 + x % 64).toNat].toArray⟩ := rt_four hv (by omega)
        have e0 : bt (rt x) 0 = (240 + x / 262144).toNat := by rw [e, bt_lit]; exact u8 _ (by omega)
        have e1 : bt (rt x) 1 = (128 + x / 4096 % 64).toNat := by rw [e, bt_lit]; exact u8 _ (by omega)
        have e2 : bt (rt x) 2 = (128 + x / 64 % 64).toNat := by rw [e, bt_lit]; exact u8 _ (by omega)
        have e3 : bt (rt x) 3 = (128 + x % 64).toNat := by rw [e, bt_lit]; exact u8 _ (by omega)
        rw [e0, e1, e2, e3]
        exact decN_four (by omega) (by omega) (by omega)

theorem dec_good {x : Int} (hv : Utf8.valid x = true) : ¬ (x.toNat, rl x) = (65533, 1) := by
  intro h
  have h1 : x.toNat = 65533 := congrArg Prod.fst h
  have h2 : rl x = 1 := congrArg Prod.snd h
  have hb := valid_bounds hv
  unfold rl at h2
  rw [if_pos hb, if_neg (by omega), if_neg (by omega), if_pos (by omega)] at h2
  omega
theorem ra_cat (a c : ByteArray) (x : Int) (hv : Utf8.valid x = true) : ra (a ++ (rt x ++ c)) a.size = (x, (rl x : Int)) := by
  have hb := valid_bounds hv
  have hd := dec_cat a c x hv
  rw [ra_good (by rw [hd]; exact dec_good hv), hd]
  apply Prod.ext
  · show (x.toNat : Int) = x; omega
  · rfl

theorem app_assoc (a b c : ByteArray) : a ++ b ++ c = a ++ (b ++ c) := by apply ByteArray.ext; simp [Array.append_assoc]
theorem app_nil (a : ByteArray) : a ++ ⟨#[]⟩ = a := by apply ByteArray.ext; simp
theorem nil_app (a : ByteArray) : (⟨#[]⟩ : ByteArray) ++ a = a := by apply ByteArray.ext; simp
theorem cat_append (l m : List Int) : cat (l ++ m) = cat l ++ cat m := by
  induction l with
  | nil => rw [List.nil_append, cat, nil_app]
  | cons x l ih => rw [List.cons_append, cat, cat, ih, app_assoc]

/-- Along such a text the two functions go scalar by scalar. -/
theorem along (s post : ByteArray) : ∀ (ns : List Int) (pre : ByteArray) (f : Nat), (∀ n ∈ ns, Utf8.valid n = true) → s = pre ++ (cat ns ++ post) → s.size ≤ pre.size + f →
    ∃ f', okF s f pre.size = okF s f' (pre.size + (cat ns).size) ∧ runesF s f pre.size = ns ++ runesF s f' (pre.size + (cat ns).size) ∧ s.size ≤ pre.size + (cat ns).size + f'
  | [], pre, f, _, _, hf => ⟨f, rfl, rfl, hf⟩
  | n :: ns, pre, f, hv, hs, hf => by
    have hn := hv n (by simp)
    have hs1 : s = pre ++ (rt n ++ (cat ns ++ post)) := by rw [hs, cat, app_assoc]
    have hs2 : s = (pre ++ rt n) ++ (cat ns ++ post) := by rw [hs1, app_assoc]
    have hd : Utf8.decode s pre.size = (n.toNat, rl n) := by rw [hs1]; exact dec_cat _ _ _ hn
    have hb := valid_bounds hn
    have hr : 1 ≤ rl n := by
      unfold rl
      rw [if_pos hb]
      repeat' split
      all_goals omega
    have hsz : s.size = pre.size + (rl n + ((cat ns).size + post.size)) := by rw [hs1]; simp only [ByteArray.size_append, rt_size]
    have hlt : pre.size < s.size := by omega
    have hbd : ¬ Utf8.decode s pre.size = (65533, 1) := by rw [hd]; exact dec_good hn
    cases f with
    | zero => omega
    | succ f =>
      obtain ⟨f', g1, g2, g3⟩ := along s post ns (pre ++ rt n) f (fun m hm => hv m (by simp [hm])) hs2 (by rw [ByteArray.size_append, rt_size]; omega)
      have hz : (pre ++ rt n).size = pre.size + rl n := by rw [ByteArray.size_append, rt_size]
      rw [hz] at g1 g2 g3
      have hc : (cat (n :: ns)).size = rl n + (cat ns).size := by rw [cat, ByteArray.size_append, rt_size]
      refine ⟨f', ?_, ?_, by rw [hc]; omega⟩
      · simp only [okF]
        rw [if_pos hlt, if_neg hbd, hd, hc, ← Nat.add_assoc]
        exact g1
      · simp only [runesF]
        rw [if_pos hlt, hd, hc, ← Nat.add_assoc, List.cons_append]
        congr 1
        show (n.toNat : Int) = n
        omega

theorem ok_cat (ns : List Int) (hv : ∀ n ∈ ns, Utf8.valid n = true) : ok (cat ns) = true ∧ runes (cat ns) = ns := by
  obtain ⟨f', g1, g2, g3⟩ := along (cat ns) ⟨#[]⟩ ns ⟨#[]⟩ (cat ns).size hv (by rw [app_nil, nil_app]) (by omega)
  have e : (⟨#[]⟩ : ByteArray).size = 0 := rfl
  rw [e, Nat.zero_add] at g1 g2
  rw [okF_end (f := f') (pos := (cat ns).size) (by omega)] at g1
  rw [runesF_end (f := f') (pos := (cat ns).size) (by omega), List.append_nil] at g2
  exact ⟨g1, by unfold runes ok; rw [if_pos g1]; exact g2⟩

theorem ok_wrong (ns : List Int) (hv : ∀ n ∈ ns, Utf8.valid n = true) : ok (cat ns ++ ⟨#[255]⟩) = false := by
  obtain ⟨f', g1, g2, g3⟩ := along (cat ns ++ ⟨#[255]⟩) ⟨#[255]⟩ ns ⟨#[]⟩ (cat ns ++ ⟨#[255]⟩).size hv (by rw [nil_app]) (by omega)
  have e : (⟨#[]⟩ : ByteArray).size = 0 := rfl
  have e2 : (⟨#[255]⟩ : ByteArray).size = 1 := rfl
  have hz : (cat ns ++ ⟨#[255]⟩).size = (cat ns).size + 1 := by rw [ByteArray.size_append, e2]
  rw [e, Nat.zero_add] at g1 g3
  have hbyte : bt (cat ns ++ ⟨#[255]⟩) (cat ns).size = 255 := by
    have := bt_mid (cat ns) ⟨#[255]⟩ ⟨#[]⟩ 0 (by rw [e2]; omega)
    rw [app_nil, Nat.add_zero] at this
    rw [this]; rfl
  have hd : Utf8.decode (cat ns ++ ⟨#[255]⟩) (cat ns).size = (65533, 1) := by
    have h1 : ra (cat ns ++ ⟨#[255]⟩) (cat ns).size = (-1, 0) := by rw [ra_eq, hbyte]; exact rx_none (by omega) (by omega)
    by_cases h : Utf8.decode (cat ns ++ ⟨#[255]⟩) (cat ns).size = (65533, 1)
    · exact h
    · rw [ra_good h] at h1
      have := congrArg Prod.fst h1
      simp only at this
      omega
  unfold ok
  rw [g1]
  exact okF_bad (by omega) (by omega) hd
end Go.Proofs.YtaafgcnkedaonaaDoor
