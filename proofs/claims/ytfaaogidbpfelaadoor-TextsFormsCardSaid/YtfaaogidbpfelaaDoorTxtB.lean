/-
  What strings.Cut answers at a colon, a dot, two colons, in the plain words of these texts; what decimal and decimals answer.
  Conditions: a text shorter than 4294967281 bytes.
-/
import Derived.Test.YtfaaogidbpfelaaDoorTxtA
import Derived.Test.YtfaaogidbpfelaaDoorShelf
import Derived.Test.YtfaaogidbpfelaaDoorMemBH
namespace Go.Proofs.YtfaaogidbpfelaaDoor.Tx
open Go.RowKit

theorem index_no {c : UInt8} {s : Str} (h : c ∉ s) : Lib.index s [c] = -1 := by
  induction s with
  | nil => rfl
  | cons x r ih =>
    simp at h
    rw [Lib.index, ih h.2]
    simp [List.isPrefixOf, h.1]
theorem index_yes {c : UInt8} {a : Str} (h : c ∉ a) (b : Str) : Lib.index (a ++ c :: b) [c] = a.length := by
  induction a with
  | nil => simp [Lib.index, List.isPrefixOf]
  | cons x r ih =>
    simp at h
    rw [List.cons_append, Lib.index, ih h.2]
    have : ((r.length : Int) == -1) = false := by rw [beq_eq_false_iff_ne]; omega
    simp [List.isPrefixOf, h.1, this]
theorem cut_no {c : UInt8} {s : Str} (h : c ∉ s) : Lib.cut s [c] = (s, [], false) := by
  unfold Lib.cut
  rw [index_no h, if_neg (by omega)]
theorem cut_yes {c : UInt8} {a : Str} (h : c ∉ a) (b : Str) : Lib.cut (a ++ c :: b) [c] = (a, b, true) := by
  unfold Lib.cut
  rw [index_yes h, if_pos (by omega)]
  simp [List.drop_append]
theorem split_at {c : UInt8} {s : Str} (h : c ∈ s) : ∃ a b, s = a ++ c :: b ∧ c ∉ a := by
  induction s with
  | nil => simp at h
  | cons x r ih =>
    by_cases e : x = c
    · exact ⟨[], r, by simp [e], by simp⟩
    · obtain ⟨a, b, hr, ha⟩ := ih (by simp at h; exact h.resolve_left (fun e' => e e'.symm))
      exact ⟨x :: a, b, by simp [hr], by simp [ha]; exact fun e' => e e'.symm⟩
theorem index2_no {s : Str} (h : cut2 s = none) : Lib.index s [58, 58] = -1 := by
  induction s with
  | nil => rfl
  | cons x r ih =>
    unfold cut2 at h
    split at h
    · cases h
    · rename_i hx
      have hr : cut2 r = none := by
        cases hc : cut2 r with
        | none => rfl
        | some p => rw [hc] at h; cases h
      rw [Lib.index, ih hr]
      have : List.isPrefixOf [58, 58] (x :: r) = false := by
        cases r with
        | nil => simp [List.isPrefixOf]
        | cons y t =>
          simp at hx
          simp [List.isPrefixOf]
          exact fun e1 e2 => hx e1.symm e2.symm
      simp [this]
theorem index2_yes {s a b : Str} (h : cut2 s = some (a, b)) : Lib.index s [58, 58] = a.length ∧ s = a ++ 58 :: 58 :: b := by
  induction s generalizing a b with
  | nil => cases h
  | cons x r ih =>
    unfold cut2 at h
    split at h
    · rename_i hx
      obtain ⟨rfl, hr⟩ := hx
      cases r with
      | nil => simp at hr
      | cons y t =>
        simp at hr h
        obtain ⟨rfl, rfl⟩ := h
        subst hr
        simp [Lib.index, List.isPrefixOf]
    · rename_i hx
      cases hc : cut2 r with
      | none => rw [hc] at h; cases h
      | some p =>
        obtain ⟨a', b'⟩ := p
        rw [hc] at h
        simp at h
        obtain ⟨rfl, rfl⟩ := h
        obtain ⟨h1, h2⟩ := ih hc
        refine ⟨?_, by simp [h2]⟩
        rw [Lib.index, h1]
        have : List.isPrefixOf [58, 58] (x :: r) = false := by
          cases r with
          | nil => simp [List.isPrefixOf]
          | cons y t =>
            simp at hx
            simp [List.isPrefixOf]
            exact fun e1 e2 => hx e1.symm e2.symm
        have h3 : ((a'.length : Int) == -1) = false := by rw [beq_eq_false_iff_ne]; omega
        simp [this, h3]
theorem cutt_no {s : Str} (h : cut2 s = none) : Lib.cut s [58, 58] = (s, [], false) := by
  unfold Lib.cut
  rw [index2_no h, if_neg (by omega)]
theorem cutt_yes {s a b : Str} (h : cut2 s = some (a, b)) : Lib.cut s [58, 58] = (a, b, true) := by
  obtain ⟨h1, h2⟩ := index2_yes h
  unfold Lib.cut
  rw [h1, if_pos (by omega), h2]
  simp [List.drop_append]

/-- the library's variable lies where it should -/
def Mx (w : World) : Prop := ∃ m, w.cell? ⟨0, 0, none⟩ = some (.int .i64 m)
theorem Mx.keep {w w' : World} (h : Mx w) (hb : Below w.heap.size w w') : Mx w' := by
  obtain ⟨m, hm⟩ := h
  exact ⟨m, by rw [hb.cell (block_lt_of_cell hm), hm]⟩

/-- strings.Cut -/
theorem cut_any (s t : Str) (w : World) (hs : s.length < 4294967281) (hm : Mx w) {a b : Str} {f : Bool} (h : Lib.cut s t = (a, b, f)) :
    Calls Tryd.prog 22 #[.string (bs s), .string (bs t)] w fun e w' => e = .returned (.tuple #[.string (bs a), .string (bs b), .bool f]) ∧ ∃ n, w' = w.drewN n := by
  obtain ⟨m, hm⟩ := hm
  have := Tryd.strings_Cut (bs s) (bs t) m w (by rw [bs_size]; exact hs) hm
  rw [bs_data, bs_data, h] at this
  exact this

set_option maxRecDepth 100000 in
theorem decimal_any (s : Str) (w : World) : Calls Tryd.prog 55 #[.string (bs s)] w fun e w' => e = .returned (.tuple #[.int .u8 ((dec s).getD 0), .bool (dec s).isSome]) ∧ Below w.heap.size w w' := by
  have hsz := bs_size s
  have K := veil (number10_any s)
  by_cases h1 : 1 < s.length
  · have h1' : (1 : Int) < (s.length : Int) := by omega
    have hlt : 0 < (bs s).size := by rw [hsz]; omega
    have hat := bs_at s 0 hlt
    have hhd : s.head? = some s[0] := by rw [List.head?_eq_getElem?, List.getElem?_eq_getElem (by omega)]; rfl
    by_cases h48 : s[0] = 48
    · have hd : dec s = none := by unfold dec; rw [if_pos ⟨h1, by rw [hhd, h48]⟩]
      rw [hd]
      clear hd hhd K
      have hz : (s[0].toNat : Int) = 48 := by rw [h48]; rfl
      go_enter Tryd.func55, Tryd.ntmps55
      go_wp2_with fail
      go_ret2
      exact ⟨rfl, Below.refl _ _⟩
    · have hz : ¬ (s[0].toNat : Int) = 48 := fun e => h48 (UInt8.toNat_inj.1 (by show _ = 48; omega))
      have hneg : ¬ (1 < s.length ∧ s.head? = some 48) := fun h => h48 (by have := h.2; rw [hhd] at this; exact Option.some.inj this)
      clear hhd
      cases ho : num 10 3 s with
      | none =>
        have K : ∀ v, Calls Tryd.prog 42 #[.string (bs s), .int .i64 10, .int .i64 3] v fun e w' => e = .returned (.tuple #[.int .i64 0, .bool false]) ∧ Below v.heap.size v w' := fun v => by
          have := K.out v
          rwa [ho] at this
        have K := veil K
        have hd : dec s = none := by unfold dec; rw [if_neg hneg, ho]
        rw [hd]
        clear ho hd
        go_enter Tryd.func55, Tryd.ntmps55
        go_wp2_with fail
        refine (K.out _).mono ?_
        rintro e w1 ⟨rfl, hb⟩
        have hb := veil hb
        go_wp2_with fail
        go_ret2
        exact ⟨rfl, hb.out⟩
      | some m =>
        have K : ∀ v, Calls Tryd.prog 42 #[.string (bs s), .int .i64 10, .int .i64 3] v fun e w' => e = .returned (.tuple #[.int .i64 m, .bool true]) ∧ Below v.heap.size v w' := fun v => by
          have := K.out v
          rwa [ho] at this
        have K := veil K
        by_cases hm : m ≤ 255
        · have hd : dec s = some m := by unfold dec; rw [if_neg hneg, ho]; simp [hm]
          rw [hd]
          have hm' : (m : Int) ≤ 255 := by omega
          clear ho hd hm
          go_enter Tryd.func55, Tryd.ntmps55
          go_wp2_with fail
          refine (K.out _).mono ?_
          rintro e w1 ⟨rfl, hb⟩
          have hb := veil hb
          go_wp2_with fail
          go_ret2
          exact ⟨rfl, hb.out⟩
        · have hd : dec s = none := by unfold dec; rw [if_neg hneg, ho]; simp [hm]
          rw [hd]
          have hm' : (255 : Int) < (m : Int) := by omega
          clear ho hd hm
          go_enter Tryd.func55, Tryd.ntmps55
          go_wp2_with fail
          refine (K.out _).mono ?_
          rintro e w1 ⟨rfl, hb⟩
          have hb := veil hb
          go_wp2_with fail
          go_ret2
          exact ⟨rfl, hb.out⟩
  · have h1' : ¬ (1 : Int) < (s.length : Int) := by omega
    have hneg : ¬ (1 < s.length ∧ s.head? = some 48) := fun h => h1 h.1
    cases ho : num 10 3 s with
    | none =>
      have K : ∀ v, Calls Tryd.prog 42 #[.string (bs s), .int .i64 10, .int .i64 3] v fun e w' => e = .returned (.tuple #[.int .i64 0, .bool false]) ∧ Below v.heap.size v w' := fun v => by
        have := K.out v
        rwa [ho] at this
      have K := veil K
      have hd : dec s = none := by unfold dec; rw [if_neg hneg, ho]
      rw [hd]
      clear ho hd
      go_enter Tryd.func55, Tryd.ntmps55
      go_wp2_with fail
      refine (K.out _).mono ?_
      rintro e w1 ⟨rfl, hb⟩
      have hb := veil hb
      go_wp2_with fail
      go_ret2
      exact ⟨rfl, hb.out⟩
    | some m =>
      have K : ∀ v, Calls Tryd.prog 42 #[.string (bs s), .int .i64 10, .int .i64 3] v fun e w' => e = .returned (.tuple #[.int .i64 m, .bool true]) ∧ Below v.heap.size v w' := fun v => by
        have := K.out v
        rwa [ho] at this
      have K := veil K
      by_cases hm : m ≤ 255
      · have hd : dec s = some m := by unfold dec; rw [if_neg hneg, ho]; simp [hm]
        rw [hd]
        have hm' : (m : Int) ≤ 255 := by omega
        clear ho hd hm
        go_enter Tryd.func55, Tryd.ntmps55
        go_wp2_with fail
        refine (K.out _).mono ?_
        rintro e w1 ⟨rfl, hb⟩
        have hb := veil hb
        go_wp2_with fail
        go_ret2
        exact ⟨rfl, hb.out⟩
      · have hd : dec s = none := by unfold dec; rw [if_neg hneg, ho]; simp [hm]
        rw [hd]
        have hm' : (255 : Int) < (m : Int) := by omega
        clear ho hd hm
        go_enter Tryd.func55, Tryd.ntmps55
        go_wp2_with fail
        refine (K.out _).mono ?_
        rintro e w1 ⟨rfl, hb⟩
        have hb := veil hb
        go_wp2_with fail
        go_ret2
        exact ⟨rfl, hb.out⟩

end Go.Proofs.YtfaaogidbpfelaaDoor.Tx
