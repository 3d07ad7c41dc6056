/-
  The document's cutter, as the reference has it: what each call answers, and what becomes of it.
  Conditions: it lies in a block of its own; what is left lies in a slice of at most its capacity.
-/
import Derived.Test.YtddmjenhpbbocaaRefA
namespace Go.Proofs.Ytddmjenhpbbocaa
open Go.RowKit

/-- the reference's cutter at block h: what is left, and whether it is spoilt -/
def RRow (w : World) (h : Nat) (A : Option Addr) (n c : Nat) (s : Bool) : Prop := Row w h 39 #[.slice A n c, .bool s]

theorem rbytes_bad (h : Nat) (k : Int) (w : World) (hr : RRow w h none 0 0 true) :
    Calls Try.prog 27 #[.pointer (some ⟨h, 0, none⟩), .int .i64 k] w fun e w' => e = .returned (.slice none 0 0) ∧ w = w' := by
  have h1 : w.cell? ⟨h, 1, none⟩ = some (.bool true) := hr.cell 1
  go_enter Try.func27, Try.ntmps27
  go_wp2_with fail
  go_ret
  exact ⟨rfl, rfl⟩

theorem rbytes_over (h n c : Nat) (A : Option Addr) (k : Int) (w : World) (hr : RRow w h A n c false) (hk : k < 0 ∨ (n : Int) < k) :
    Calls Try.prog 27 #[.pointer (some ⟨h, 0, none⟩), .int .i64 k] w fun e w' => e = .returned (.slice none 0 0) ∧ (w.setCell ⟨h, 1, none⟩ (.bool true)).setCell ⟨h, 0, none⟩ (.slice none 0 0) = w' := by
  have h0 : w.cell? ⟨h, 0, none⟩ = some (.slice A n c) := hr.cell 0
  have h1 : w.cell? ⟨h, 1, none⟩ = some (.bool false) := hr.cell 1
  have f0 := hr.frozen 0
  have f1 := hr.frozen 1
  rcases hk with hk | hk
  · go_enter Try.func27, Try.ntmps27
    go_wp2_with fail
    go_ret
    exact ⟨rfl, rfl⟩
  · have hk0 : ¬ k < 0 := by omega
    go_enter Try.func27, Try.ntmps27
    go_wp2_with fail
    go_ret
    exact ⟨rfl, rfl⟩

/-- bytes of the call's own; only the cutter at block h has turned, to P -/
def RGives (w : World) (h : Nat) (xs : List Int) (P : World → Prop) (e : Ending) (w' : World) : Prop :=
  ∃ A m c, e = .returned (.slice A m c) ∧ m = xs.length ∧ Own w' w.heap.size (.slice A m c) xs ∧ w.grownBy w' (some h) ∧ P w'

set_option maxHeartbeats 1000000 in
theorem rbytes_in (h n c k : Nat) (A : Option Addr) (zs : List Int) (w : World) (hr : RRow w h A n c false) (hl : zs.length = n) (hd : Rd w A zs) (hk : k ≤ n) (hc : n ≤ c) (hn : n ≤ 16000000) :
    Calls Try.prog 27 #[.pointer (some ⟨h, 0, none⟩), .int .i64 k] w (RGives w h (zs.take k) (RRow · h (cutA A c k) (n - k) (c - k) false)) := by
  have HR := veil hr
  have HD := veil hd
  have HL := veil hl
  have h0 : w.cell? ⟨h, 0, none⟩ = some (.slice A n c) := hr.cell 0
  have h1 : w.cell? ⟨h, 1, none⟩ = some (.bool false) := hr.cell 1
  have hk0 : decide ((k : Int) < 0) = false := by simp
  have hkn : decide (n < k) = false := by simp; omega
  clear hr hd hl
  go_enter Try.func27, Try.ntmps27
  go_wp2_with fail
  clear h0 h1
  go_loopw [5, 6] (fun ou i wr => ∃ (j m2 c2 : Nat) (A2 : Option Addr), j ≤ k ∧ i = .int .i64 j ∧ ou = .slice A2 m2 c2 ∧ Hid (Own wr w.heap.size (.slice A2 m2 c2) (zs.take j) ∧ Below w.heap.size w wr)) (fun _ i _ => k - (intOf i).toNat)
  case atStart => exact ⟨0, 0, 0, none, Nat.zero_le _, rfl, rfl, own_nil _ _, Below.refl _ _⟩
  case round =>
    obtain ⟨j, m2, c2, A2, hj, rfl, rfl, hH⟩ := hrel
    by_cases hlt : j < k
    · have h0 : wr.cell? ⟨h, 0, none⟩ = some (.slice A n c) := (HR.out.keep hH.out.2).cell 0
      have hjl : j < zs.length := by rw [HL.out]; omega
      obtain ⟨a, rfl, hca⟩ := (HD.out.keep hH.out.2) j hjl
      have E := veil (take_next zs j hjl)
      have hlen : Hid ((zs.take j).length + 1 ≤ 16777216) := by simp [Hid]; have := HL.out; omega
      generalize zs.getD j 0 = z at hca E
      go_wp2_with (first
        | (at_builtin
           refine wpList_byte rfl (.tmp 33) (.tmp 41) rfl wr w.heap.size (.slice A2 m2 c2) _ _ rfl rfl hH.out.1 hlen.out hH.out.2.size ?_
           intro v3 w3 ho3 hg3
           obtain ⟨A3, c3, e3, _, _⟩ := ho3.slc.slice
           generalize (zs.take j ++ [z]).length = m3 at e3
           subst e3
           have b3 : Below w.heap.size w w3 := own_below (hH.out.1.keep (below_new _ _)) hg3 (hH.out.2.alloc hH.out.2.size _) (by have := hH.out.2.size; simp; omega)
           rw [← E.out] at ho3
           have HO3 := veil ho3
           have HB3 := veil b3
           clear ho3 hg3 b3))
      go_roundw
      case rel => exact ⟨j + 1, _, _, _, by omega, by go_num, rfl, HO3.out, HB3.out⟩
      case measure => simp [intOf]; omega
    · have e : j = k := by omega
      subst e
      have hr1 := HR.out.keep hH.out.2
      have h0 : wr.cell? ⟨h, 0, none⟩ = some (.slice A n c) := hr1.cell 0
      have f0 := hr1.frozen 0
      have HF : Hid (RGives w h (zs.take j) (RRow · h (cutA A c j) (n - j) (c - j) false) (.returned (.slice A2 m2 c2)) (wr.setCell ⟨h, 0, none⟩ (.slice (cutA A c j) (n - j) (c - j)))) := by
        refine ⟨A2, m2, c2, rfl, (slc_rd hH.out.1.slc).2.symm, ?_, ?_, ?_⟩
        · exact ownsRow_setCell_below hH.out.1 (a := ⟨h, 0, none⟩) HR.out.lt _
        · exact gb_trans ⟨hH.out.2.os, hH.out.2.tape, hH.out.2.output, hH.out.2.size, fun i hi _ => hH.out.2.block i hi⟩ (gb_set _ _ _ _)
        · have := hr1.set 0 (.slice (cutA A c j) (n - j) (c - j))
          simpa [RRow] using this
      clear hr1
      by_cases hcj : c = j
      · subst hcj
        obtain rfl : c = n := by omega
        have e1 : cutA A c c = A := by unfold cutA; rw [if_pos rfl]
        rw [e1] at HF
        have E1 := veil e1
        clear e1
        go_wp2_with fail
        all_goals go_ret
        all_goals (have hx := HF.out; simp only [Nat.sub_self] at hx ⊢; rw [E1.out]; exact hx)
      · have e1 : cutA A c j = A.map (·.add j) := by unfold cutA; rw [if_neg hcj]
        rw [e1] at HF
        have E1 := veil e1
        clear e1
        go_wp2_with fail
        all_goals go_ret
        all_goals (rw [E1.out]; exact HF.out)

theorem rspoil {w : World} {h : Nat} {x y : Value} (hr : Row w h 39 #[x, y]) : RRow ((w.setCell ⟨h, 1, none⟩ (.bool true)).setCell ⟨h, 0, none⟩ (.slice none 0 0)) h none 0 0 true := by
  have := (hr.set 1 (.bool true)).set 0 (.slice none 0 0)
  simpa [RRow] using this
/-- in one form: over, and it is spoilt -/
theorem rbytes_over' (h n c : Nat) (A : Option Addr) (k : Int) (w : World) (hr : RRow w h A n c false) (hk : k < 0 ∨ (n : Int) < k) :
    Calls Try.prog 27 #[.pointer (some ⟨h, 0, none⟩), .int .i64 k] w (RGives w h [] (RRow · h none 0 0 true)) :=
  (rbytes_over h n c A k w hr hk).mono fun _ _ ⟨he, hw⟩ => ⟨none, 0, 0, he, rfl, own_nil _ _, by subst hw; exact gb_trans (gb_set _ _ _ _) (gb_set _ _ _ _), by subst hw; exact rspoil hr⟩
theorem rbytes_bad' (h : Nat) (k : Int) (w : World) (hr : RRow w h none 0 0 true) :
    Calls Try.prog 27 #[.pointer (some ⟨h, 0, none⟩), .int .i64 k] w (RGives w h [] (RRow · h none 0 0 true)) :=
  (rbytes_bad h k w hr).mono fun _ _ ⟨he, hw⟩ => ⟨none, 0, 0, he, rfl, own_nil _ _, by subst hw; exact World.grownBy.refl _ _, by subst hw; exact hr⟩

theorem rrest_any (h n c : Nat) (A : Option Addr) (s : Bool) (xs : List Int) (P : World → Prop) (w : World) (hr : RRow w h A n c s)
    (hb : Calls Try.prog 27 #[.pointer (some ⟨h, 0, none⟩), .int .i64 n] w (RGives w h xs P)) :
    Calls Try.prog 28 #[.pointer (some ⟨h, 0, none⟩)] w (RGives w h xs P) := by
  have h0 : w.cell? ⟨h, 0, none⟩ = some (.slice A n c) := hr.cell 0
  have HB := veil hb
  clear hb hr
  go_enter Try.func28, Try.ntmps28
  go_wp2_with fail
  refine (HB.out).mono ?_
  rintro e w1 ⟨A1, m1, c1, rfl, hm, ho⟩
  have HH := veil (And.intro hm ho)
  clear hm ho
  go_wp2_with fail
  go_ret
  exact ⟨A1, m1, c1, rfl, HH.out.1, HH.out.2⟩

/-- a number; only the cutter at block h has turned -/
def RNum (w : World) (h : Nat) (x : Int) (P : World → Prop) (e : Ending) (w' : World) : Prop := e = .returned (.int .u64 x) ∧ w.grownBy w' (some h) ∧ P w'

set_option maxHeartbeats 1000000 in
/-- the number of what Bytes answers, for a width that may be -/
theorem rnum_of (h : Nat) (k : Int) (xs : List Int) (P : World → Prop) (w : World) (h1 : 1 ≤ k) (h8 : k ≤ 8) (hx : Byt xs) (hx8 : xs.length ≤ 8)
    (hb : Calls Try.prog 27 #[.pointer (some ⟨h, 0, none⟩), .int .i64 k] w (RGives w h xs P)) :
    Calls Try.prog 26 #[.pointer (some ⟨h, 0, none⟩), .int .i64 k] w (RNum w h (num xs) P) := by
  have HB := veil hb
  have HX := veil hx
  have hk1 : decide (k < 1) = false := by simp; omega
  have hk8 : decide (8 < k) = false := by simp; omega
  clear hb hx
  go_enter Try.func26, Try.ntmps26
  go_wp2_with fail
  refine (HB.out).mono ?_
  rintro e w1 ⟨A1, m1, c1, rfl, hm, ho, hg, hP⟩
  have HM := veil hm
  have hm8 : m1 ≤ 8 := by omega
  have HO := veil (slc_rd ho.slc).1
  have HG := veil (And.intro hg hP)
  clear hm ho hg hP HB
  go_wp2_with fail
  go_loopw [6, 7] (fun a i wr => ∃ j : Nat, j ≤ m1 ∧ i = .int .i64 j ∧ a = .int .u64 (num (xs.take j)) ∧ wr = w1) (fun _ i _ => m1 - (intOf i).toNat)
  case atStart => exact ⟨0, Nat.zero_le _, rfl, rfl, rfl⟩
  case round =>
    obtain ⟨j, hj, rfl, rfl, rfl⟩ := hrel
    by_cases hlt : j < m1
    · have hjl : j < xs.length := by rw [← HM.out]; exact hlt
      obtain ⟨a, rfl, hca⟩ := HO.out j hjl
      have hxx := HX.out.at_ j
      have hn := num_bound8 xs HX.out j (by omega) (by omega)
      have E := veil (num_next xs j hjl)
      have hw1 : IntKind.u64.wrap (256 * num (xs.take j)) = 256 * num (xs.take j) := by rw [IntKind.wrap_u64]; omega
      have hw2 : IntKind.u64.wrap (xs.getD j 0) = xs.getD j 0 := by rw [IntKind.wrap_u64]; omega
      have hw3 : IntKind.u64.wrap (256 * num (xs.take j) + xs.getD j 0) = 256 * num (xs.take j) + xs.getD j 0 := by rw [IntKind.wrap_u64]; omega
      rw [← E.out] at hw3
      generalize num (xs.take j) = a0 at hw1 hw3 hn E ⊢
      generalize xs.getD j 0 = z0 at hca hw2 hw3 hxx E
      go_wp2_with fail
      go_roundw
      case rel => exact ⟨j + 1, by omega, by go_num, by rw [E.out], trivial⟩
      case measure => simp [intOf]; omega
    · have e : j = m1 := by omega
      have e2 : xs.take j = xs := List.take_of_length_le (by rw [← HM.out]; omega)
      rw [e2]
      go_wp2_with fail
      go_ret
      exact ⟨rfl, HG.out.1, HG.out.2⟩

theorem rnum_lo (h : Nat) (k : Int) (P : World → Prop) (w : World) (hk : k < 1)
    (hb : Calls Try.prog 27 #[.pointer (some ⟨h, 0, none⟩), .int .i64 (-1)] w (RGives w h [] P)) :
    Calls Try.prog 26 #[.pointer (some ⟨h, 0, none⟩), .int .i64 k] w (RNum w h 0 P) := by
  have HB := veil hb
  have hk1 : decide (k < 1) = true := by simp; omega
  clear hb
  go_enter Try.func26, Try.ntmps26
  go_wp2_with fail
  refine (HB.out).mono ?_
  rintro e w1 ⟨A1, m1, c1, rfl, hm, ho, hg, hP⟩
  have hm0 : m1 = 0 := hm
  subst hm0
  have HG := veil (And.intro hg hP)
  clear hm ho hg hP HB
  go_wp2_with fail
  go_loopw [6, 7] (fun a i wr => a = .int .u64 0 ∧ i = .int .i64 0 ∧ wr = w1) (fun _ _ _ => 0)
  case atStart => exact ⟨rfl, rfl, rfl⟩
  case round =>
    obtain ⟨rfl, rfl, rfl⟩ := hrel
    go_wp2_with fail
    go_ret
    exact ⟨rfl, HG.out.1, HG.out.2⟩

theorem rnum_hi (h : Nat) (k : Int) (P : World → Prop) (w : World) (hk : 8 < k) (hk1 : 1 ≤ k)
    (hb : Calls Try.prog 27 #[.pointer (some ⟨h, 0, none⟩), .int .i64 (-1)] w (RGives w h [] P)) :
    Calls Try.prog 26 #[.pointer (some ⟨h, 0, none⟩), .int .i64 k] w (RNum w h 0 P) := by
  have HB := veil hb
  have hk2 : decide (k < 1) = false := by simp; omega
  have hk8 : decide (8 < k) = true := by simp; omega
  clear hb
  go_enter Try.func26, Try.ntmps26
  go_wp2_with fail
  refine (HB.out).mono ?_
  rintro e w1 ⟨A1, m1, c1, rfl, hm, ho, hg, hP⟩
  have hm0 : m1 = 0 := hm
  subst hm0
  have HG := veil (And.intro hg hP)
  clear hm ho hg hP HB
  go_wp2_with fail
  go_loopw [6, 7] (fun a i wr => a = .int .u64 0 ∧ i = .int .i64 0 ∧ wr = w1) (fun _ _ _ => 0)
  case atStart => exact ⟨rfl, rfl, rfl⟩
  case round =>
    obtain ⟨rfl, rfl, rfl⟩ := hrel
    go_wp2_with fail
    go_ret
    exact ⟨rfl, HG.out.1, HG.out.2⟩

theorem rnum_wrong (h : Nat) (k : Int) (P : World → Prop) (w : World) (hk : k < 1 ∨ 8 < k)
    (hb : Calls Try.prog 27 #[.pointer (some ⟨h, 0, none⟩), .int .i64 (-1)] w (RGives w h [] P)) :
    Calls Try.prog 26 #[.pointer (some ⟨h, 0, none⟩), .int .i64 k] w (RNum w h 0 P) := by
  by_cases h1 : k < 1
  · exact rnum_lo h k P w h1 hb
  · exact rnum_hi h k P w (by omega) (by omega) hb

/-- a new one: what is left in rows of its own, itself in the last new block -/
def RNew (w : World) (zs : List Int) (e : Ending) (w' : World) : Prop :=
  ∃ A n c h, e = .returned (.pointer (some ⟨h, 0, none⟩)) ∧ w.heap.size ≤ h ∧ RRow w' h A n c false ∧ zs.length = n ∧ Own w' w.heap.size (.slice A n c) zs ∧ Below w.heap.size w w'

set_option maxHeartbeats 1000000 in
theorem rof_any (A : Option Addr) (n c : Nat) (zs : List Int) (w : World) (hn : n ≤ 16000000) (hS : Slc w (.slice A n c) zs) :
    Calls Try.prog 12 #[.slice A n c] w (RNew w zs) := by
  have hl := (slc_rd hS).2
  obtain ⟨v1, w1, hr1, ho1, hg1, -⟩ := run_append_slc w w.heap.size 22 (.slice none 0 0) (.slice A n c) [] zs (own_nil _ _) hS (by simp; omega) (Nat.le_refl _)
  have b1 : Below w.heap.size w w1 := own_below (own_nil w w.heap.size) hg1 (Below.refl _ _) (Nat.le_refl _)
  rw [List.nil_append] at ho1
  obtain ⟨A1, c1, e1, _, _⟩ := ho1.slc.slice
  subst e1
  have HF : Hid (RNew w zs (.returned (.pointer (some ⟨w1.heap.size, 0, none⟩))) (w1.alloc (.cells #[.slice A1 zs.length c1, .bool false] 39))) :=
    ⟨A1, zs.length, c1, w1.heap.size, rfl, b1.size, row_new rfl, rfl, ho1.keep (below_new _ _), b1.alloc b1.size _⟩
  have HR1 := veil hr1
  generalize zs.length = m at HF HR1
  clear hr1 ho1 hg1 b1 hS hl
  go_enter Try.func12, Try.ntmps12
  go_wp2_with (first | (at_builtin; refine wpList_append_run rfl (.const (.slice none 0 0)) (.tmp 3) rfl rfl rfl HR1.out ?_))
  go_ret
  exact HF.out

end Go.Proofs.Ytddmjenhpbbocaa
