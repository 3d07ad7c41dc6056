/-
  What longestRun answers: the longest run of two noughts or more, the first of several; else fewer than two.
  Conditions: eight groups.
-/
import Derived.Test.YtfaaogidbpfelaaDoorTxtG
import Derived.Deep.LoopGhost
namespace Go.Proofs.YtfaaogidbpfelaaDoor.Tx
open Go.RowKit Ad

/-- the inner loop: where the run stands, how many; true: it came to the end -/
def lrI (zs : List Bool) (a : Nat) : Nat → Nat → Nat → Nat → Nat × Nat × Bool
  | 0, _, f, m => (f, m, true)
  | n + 1, e, f, m => if zs.getD e false = true then (if m < e + 1 - a then lrI zs a n (e + 1) a (e + 1 - a) else lrI zs a n (e + 1) f m) else (f, m, false)
def lrO (zs : List Bool) : Nat → Nat → Nat → Nat → Nat × Nat
  | 0, _, f, m => (f, m)
  | n + 1, a, f, m => if (lrI zs a (n + 1) a f m).2.2 = true then ((lrI zs a (n + 1) a f m).1, (lrI zs a (n + 1) a f m).2.1) else lrO zs n (a + 1) (lrI zs a (n + 1) a f m).1 (lrI zs a (n + 1) a f m).2.1
/-- what is left to do behind an inner loop -/
def lrK (zs : List Bool) (n a : Nat) (r : Nat × Nat × Bool) : Nat × Nat := if r.2.2 = true then (r.1, r.2.1) else lrO zs n (a + 1) r.1 r.2.1
theorem lrO_succ (zs : List Bool) (n a f m : Nat) : lrO zs (n + 1) a f m = lrK zs n a (lrI zs a (n + 1) a f m) := rfl
def lr (gs : List Nat) : Nat × Nat := lrO (gs.map (· == 0)) 8 0 0 0
def okLr (zs : List Bool) : Bool := match findM zs [8, 7, 6, 5, 4, 3, 2] with
  | some p => lrO zs 8 0 0 0 == p
  | none => (lrO zs 8 0 0 0).2 < 2
theorem lr8 : ∀ a b c d e f g h : Bool, okLr [a, b, c, d, e, f, g, h] = true := by decide +kernel
theorem lr_some {gs : List Nat} (h8 : gs.length = 8) {p : Nat × Nat} (h : run gs = some p) : lr gs = p := by
  match gs, h8 with
  | [a, b, c, d, e, g, i, j], _ =>
    have := lr8 (a == 0) (b == 0) (c == 0) (d == 0) (e == 0) (g == 0) (i == 0) (j == 0)
    unfold okLr at this
    have h' : findM [a == 0, b == 0, c == 0, d == 0, e == 0, g == 0, i == 0, j == 0] [8, 7, 6, 5, 4, 3, 2] = some p := h
    rw [h'] at this
    exact eq_of_beq this
theorem lr_none {gs : List Nat} (h8 : gs.length = 8) (h : run gs = none) : (lr gs).2 < 2 := by
  match gs, h8 with
  | [a, b, c, d, e, g, i, j], _ =>
    have := lr8 (a == 0) (b == 0) (c == 0) (d == 0) (e == 0) (g == 0) (i == 0) (j == 0)
    unfold okLr at this
    have h' : findM [a == 0, b == 0, c == 0, d == 0, e == 0, g == 0, i == 0, j == 0] [8, 7, 6, 5, 4, 3, 2] = none := h
    rw [h'] at this
    exact of_decide_eq_true this
theorem zs_at {gs : List Nat} (h8 : gs.length = 8) {e : Nat} (h : e < 8) : (gs.map (· == 0)).getD e false = (gs.getD e 0 == 0) := by
  simp [List.getD, h8, h]

set_option maxRecDepth 100000 in
set_option maxHeartbeats 2000000 in
theorem longestRun_any (gs : List Nat) (w : World) (h8 : gs.length = 8) : Calls Tryd.prog 18 #[gv gs] w fun e w' =>
    e = .returned (.tuple #[.int .i64 (lr gs).1, .int .i64 (lr gs).2]) ∧ Below w.heap.size w w' := by
  have Q := veil (below_new w (.cells (W16.bv (ints gs)).toArray 41))
  have R := veil (row_new (w := w) (g := w.heap.size) (cs := (W16.bv (ints gs)).toArray) (t := 41) rfl)
  have H8 := veil h8
  unfold gv
  obtain ⟨w1, hw1⟩ : ∃ w1, w.alloc (.cells (W16.bv (ints gs)).toArray 41) = w1 := ⟨_, rfl⟩
  rw [hw1] at Q R
  obtain ⟨zs, hzs⟩ : ∃ zs, gs.map (· == 0) = zs := ⟨_, rfl⟩
  have HA : Hid (∀ e, e < 8 → zs.getD e false = (gs.getD e 0 == 0)) := by rw [← hzs]; exact fun e he => zs_at h8 he
  have HC : Hid (∀ e, e < 8 → w1.cell? ⟨w.heap.size, e, none⟩ = some (.int .u16 ((gs.getD e 0 : Nat) : Int))) := by
    intro e he
    rw [R.out.cell, List.getElem?_toArray, W16.bv_get _ e (by rw [ints_len, h8]; exact he)]
    congr 2
    simp [ints, List.getD]
    rw [List.getElem?_eq_getElem (by omega)]; simp
  unfold lr
  rw [hzs]
  obtain ⟨P, hP⟩ : ∃ P, lrO zs 8 0 0 0 = P := ⟨_, rfl⟩
  rw [hP]
  have HP := veil hP
  clear hP hzs h8 R
  generalize (W16.bv (ints gs)).toArray = G at hw1 ⊢
  have HW := veil hw1
  clear hw1
  go_enter Tryd.func18, Tryd.ntmps18
  go_wp2_with fail
  go_step3
  go_wp2_with fail
  go_step3
  go_wp2_with fail
  rw [HW.out]
  clear HW
  go_loopg [2, 3, 7] 8 (fun g s2 s3 s7 wx => ∃ a f m : Nat, a + g = 8 ∧ f ≤ 8 ∧ m ≤ 8 ∧ s2 = .int .i64 f ∧ s3 = .int .i64 m ∧ s7 = .int .i64 a ∧ Hid (lrO zs g a f m = P) ∧ w1 = wx)
  case atStart => exact ⟨0, 0, 0, by omega, by omega, by omega, rfl, rfl, rfl, HP.out, rfl⟩
  case round =>
    obtain ⟨a, f, m, hag, hf, hm, rfl, rfl, rfl, hR, rfl⟩ := hrel
    cases gk with
    | zero =>
      obtain rfl : a = 8 := by omega
      have hE : Hid (P = (f, m)) := hR.out.symm
      clear hR
      go_wp2_with fail
      rw [hE.out]
      go_ret2
      exact ⟨rfl, Q.out⟩
    | succ g =>
      have ha : (a : Int) < 8 := by omega
      rw [lrO_succ] at hR
      go_wp2_with fail
      go_loopg [2, 3, 5] (g + 1) (fun n s2 s3 s5 wx => ∃ e f m : Nat, e + n = 8 ∧ a ≤ e ∧ f ≤ 8 ∧ m ≤ 8 ∧ s2 = .int .i64 f ∧ s3 = .int .i64 m ∧ s5 = .int .i64 e ∧ Hid (lrK zs g a (lrI zs a n e f m) = P) ∧ w1 = wx)
      case atStart => exact ⟨a, f, m, by omega, by omega, hf, hm, rfl, rfl, rfl, hR.out, rfl⟩
      case round =>
        clear hR HP
        obtain ⟨e, f, m, hen, hae, hf, hm, rfl, rfl, rfl, hR, rfl⟩ := hrel
        cases gk with
        | zero =>
          obtain rfl : e = 8 := by omega
          have hE : Hid (P = (f, m)) := hR.out.symm
          clear hR
          go_wp2_with fail
          rw [hE.out]
          try rw [Exit.noGoto_ret]
          go_ret2
          exact ⟨rfl, Q.out⟩
        | succ n =>
          have he : (e : Int) < 8 := by omega
          have c0 := HC.out e (by omega)
          have hz := HA.out e (by omega)
          obtain ⟨x, hx⟩ : ∃ x, gs.getD e 0 = x := ⟨_, rfl⟩
          rw [hx] at c0 hz
          clear hx
          have p1 : ¬ ((e : Int) < 0) := by omega
          have p3 : (e : Int).toNat = e := by omega
          have s1 : IntKind.i64.wrap ((e : Int) + 1) = ((e + 1 : Nat) : Int) := by rw [IntWalk.i64_in _ (by omega)]; omega
          obtain ⟨e1, he1⟩ : ∃ e1, e + 1 = e1 := ⟨_, rfl⟩
          rw [he1] at s1
          obtain ⟨d, hd⟩ : ∃ d, e1 - a = d := ⟨_, rfl⟩
          have s2 : IntKind.i64.wrap ((e1 : Int) - a) = (d : Int) := by rw [IntWalk.i64_in _ (by omega)]; omega
          by_cases hx0 : x = 0
          · subst hx0
            have hz : zs.getD e false = true := by rw [hz]; rfl
            unfold Hid at hR
            rw [lrI, if_pos hz, he1, hd] at hR
            clear hz
            by_cases hmd : m < d
            · rw [if_pos hmd] at hR
              have hR := veil hR
              have hq : (m : Int) < d := by omega
              go_wp2_with fail
              go_roundg n
              case measure => omega
              case rel => exact ⟨e1, a, d, by omega, by omega, by omega, by omega, rfl, rfl, rfl, hR.out, rfl⟩
            · rw [if_neg hmd] at hR
              have hR := veil hR
              have hq : ¬ ((m : Int) < d) := by omega
              go_wp2_with fail
              go_roundg n
              case measure => omega
              case rel => exact ⟨e1, f, m, by omega, by omega, by omega, by omega, rfl, rfl, rfl, hR.out, rfl⟩
          · have hz : ¬ zs.getD e false = true := by rw [hz]; simp [hx0]
            unfold Hid at hR
            rw [lrI, if_neg hz, lrK, if_neg (by simp)] at hR
            have hR := veil hR
            have hq : ((x : Int) = 0) = False := by simp [hx0]
            clear hz
            go_wp2_with fail
            go_roundg g
            case measure => omega
            case rel => exact ⟨a + 1, f, m, by omega, by omega, by omega, rfl, rfl, by go_num, hR.out, rfl⟩
end Go.Proofs.YtfaaogidbpfelaaDoor.Tx
