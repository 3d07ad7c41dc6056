/-
  TextsWrong: with a strange byte in place of one of its own, with a group of five digits, or eight groups more ahead, the text of an address is none: the law returns true for every input, and its arguments read as before; the library's tables are tied to the program's text.
  Conditions: none.
-/
import Derived.Test.YtfaaogidbpfelaaDoorTxtW
import Derived.Test.YtfaaogidbpfelaaDoorTie
import Derived.Test.YtfaaogidbpfelaaDoorCards
import Derived.SevenTiedAt
import Derived.Deep.CutRange
namespace Go.Proofs.YtfaaogidbpfelaaDoor.textsWrong
open Go.ChangeShapes Go.WideShapes Go.ChangeAt Go.RowKit Go.Proofs.YtfaaogidbpfelaaDoor.Tx Go.Proofs.YtfaaogidbpfelaaDoor.Ad

/-- a rune of one byte's number as text -/
def enc1 (c : Nat) : Str := if c < 128 then [c.toUInt8] else [(192 + c / 64).toUInt8, (128 + c % 64).toUInt8]
theorem enc_all : ∀ c : Fin 256, (Utf8.encode (c.1 : Int)).toList = enc1 c.1 := by decide +kernel
theorem enc_bs {c : Nat} (h : c < 256) : Utf8.encode (c : Int) = bs (enc1 c) := by
  have e := enc_all ⟨c, h⟩
  rw [ByteArray.toList_eq] at e
  generalize Utf8.encode (c : Int) = x at *
  exact (bs_of x).trans (congrArg bs e)
def Byte (c : Nat) : Prop := c < 256
/-- a byte that may stand in a text -/
def fineN (c : Nat) : Prop := (48 ≤ c ∧ c ≤ 57) ∨ (97 ≤ c ∧ c ≤ 102) ∨ (65 ≤ c ∧ c ≤ 70) ∨ c = 58 ∨ c = 46
theorem fine_iff {b : UInt8} (h : fine b) : fineN b.toNat := by
  unfold fineN
  rcases h with h | rfl | rfl
  · unfold dig at h
    repeat' split at h
    all_goals omega
  · right; right; right; left; rfl
  · right; right; right; right; rfl
theorem enc_strange : ∀ c : Fin 256, ∃ b ∈ enc1 c.1, (c.1 < 128 ∧ b.toNat = c.1) ∨ 128 ≤ b.toNat := by decide +kernel
theorem strange {c : Nat} (hc : c < 256) (h : ¬ fineN c) (a b : Str) : get (a ++ enc1 c ++ b) = none := by
  obtain ⟨x, hx, hb⟩ := enc_strange ⟨c, hc⟩
  refine get_strange (b := x) (by simp [hx]) (fun hf => ?_)
  have := fine_iff hf
  rcases hb with ⟨_, hb⟩ | hb
  · exact h (by simpa [hb] using this)
  · unfold fineN at this
    omega
theorem enc_len (c : Nat) : (enc1 c).length ≤ 2 := by
  unfold enc1
  split <;> simp
theorem five (s : Str) : get ([48, 48, 48, 48, 48, 58] ++ s) = none :=
  get_first (w := [48, 48, 48, 48, 48]) (by decide) (by decide) (by decide) s
theorem eight (s : Str) : get ([49, 58, 50, 58, 51, 58, 52, 58, 53, 58, 54, 58, 55, 58, 56, 58] ++ s) = none := by
  have := get_many (ws := [[49], [50], [51], [52], [53], [54], [55], [56]]) (by unfold Go.Proofs.YtfaaogidbpfelaaDoor.Tx.Good; decide) (by decide) s
  rw [show J [[49], [50], [51], [52], [53], [54], [55], [56]] = [49, 58, 50, 58, 51, 58, 52, 58, 53, 58, 54, 58, 55, 58, 56] from by decide +kernel] at this
  exact this
theorem slice_to (s : Str) {k : Nat} (hk : k ≤ s.length) (u : World) : (Instr.sliceAt 9 (.string (bs s)) none (some (.int .i64 k)) none).run Tryd.prog u = .ok (.string (bs (s.take k))) u := by
  have h1 : (k : Int) ≤ (s.length : Int) := by omega
  have h2 := bs_cut s 0 k
  simp [Instr.sliceAt, run_underlying Tryd.underlying9, go_sem, bs_size, h1, h2]
theorem slice_fr (s : Str) {k : Nat} (hk : k ≤ s.length) (u : World) : (Instr.sliceAt 9 (.string (bs s)) (some (.int .i64 k)) none none).run Tryd.prog u = .ok (.string (bs (s.drop k))) u := by
  have h1 : (k : Int) ≤ (s.length : Int) := by omega
  have h2 := bs_cut s k s.length
  rw [List.take_of_length_le (by simp)] at h2
  simp [Instr.sliceAt, run_underlying Tryd.underlying9, go_sem, bs_size, h1, h2]

theorem conv_rune {c : Nat} {u8 : Str} (h : Utf8.encode (c : Int) = bs u8) (u : World) : (convert 21 9 (.int .i32 c)).run Tryd.prog u = .ok (.string (bs u8)) u := by
  simp [convert, run_underlying Tryd.underlying9, run_underlying Tryd.underlying21, go_sem, Conv.intToString, h]
theorem conv_byte {c : Nat} (h : Byte c) (u : World) : (convert 5 21 (.int .u8 c)).run Tryd.prog u = .ok (.int .i32 c) u := by
  have h : c < 256 := h
  have e : IntKind.i32.wrap (c : Int) = (c : Int) := by
    have : ∀ c : Fin 256, IntKind.i32.wrap (c.1 : Int) = (c.1 : Int) := by decide +kernel
    exact this ⟨c, h⟩
  simp [convert, run_underlying Tryd.underlying5, run_underlying Tryd.underlying21, go_sem, e]
theorem yields_conv {ops : Array Oper} {S : World → Prop} {op : Oper} {a : Act} {v v' : Value} (hw : Region.wanted op (yielded ops a.tmps) = true) (sr ds : TypeId) (x : Operand) (ho : op.op = .convert sr ds x) (hx : a.eval x = v) (hr : ∀ u, (convert sr ds v).run Tryd.prog u = .ok v' u) :
    YieldsIf Tryd.prog ops S op v' a :=
  .inl ⟨hw, fun w _ => by
    unfold execOp
    simp only [ho, hx, Sem.run_bind, Sem.run_pure, Result.andThen_ok, hr w]⟩

theorem yields_as {ops : Array Oper} {S : World → Prop} {op : Oper} {a : Act} {s t r : Str} (hr : s ++ t = r) (hw : Region.wanted op (yielded ops a.tmps) = true) (x y : Operand) (ho : op.op = .binOp .add 9 x y 9) (hx : a.eval x = .string (bs s)) (hy : a.eval y = .string (bs t)) (h : Fits s t) :
    YieldsIf Tryd.prog ops S op (.string (bs r)) a := hr ▸ yields_add hw x y ho hx hy h

set_option linter.unusedSimpArgs false in
set_option maxRecDepth 100000 in
set_option maxHeartbeats 8000000 in
theorem walk (xs : List Int) (c a : Nat) (w : World) (hx : Ok xs) (hc : c < 256) (ha : a < 256) (ht : Tw w) : Calls Tryd.prog 7 #[av xs, .int .u8 c, .int .u8 a] w fun e w' => e = .returned (.bool true) ∧ Below w.heap.size w w' := by
  have hl := put_len (grp_len xs)
  have K1 := veil (fun v (h : Tw v) => put_any xs v hx h.db)
  generalize put (grp xs) = s at *
  have M := veil ((Bt.begin ht).new xs 23 rfl)
  have HX := veil hx.len
  have hsz := bs_size s
  obtain ⟨n, hn⟩ : ∃ n, s.length = n := ⟨_, rfl⟩
  rw [hn] at hl hsz
  obtain ⟨k, hk⟩ : ∃ k, a % n = k := ⟨_, rfl⟩
  have hkn : k < n := by rw [← hk]; exact Nat.mod_lt _ (by omega)
  have r1 : (a : Int).tmod (n : Int) = (k : Int) := by rw [← hk]; exact (Int.ofNat_tmod a n).symm
  have K2 : Hid (¬ fineN c → ∀ v, Tw v → Calls Tryd.prog 16 #[.string (bs (s.take k ++ enc1 c ++ s.drop (k + 1)))] v fun e w' => e = .returned (.bool true) ∧ Below v.heap.size v w') := fun hf v h => none_true _ v (by have := enc_len c; simp; omega) h.mx (strange hc hf _ _)
  have K3 := veil (fun v (h : Tw v) => none_true ([48, 48, 48, 48, 48, 58] ++ s) v (by simp; omega) h.mx (five s))
  have K4 := veil (fun v (h : Tw v) => none_true ([49, 58, 50, 58, 51, 58, 52, 58, 53, 58, 54, 58, 55, 58, 56, 58] ++ s) v (by simp; omega) h.mx (eight s))
  have K5 : Hid (∀ v, Tw v → Calls Tryd.prog 16 #[.string ⟨#[]⟩] v fun e w' => e = .returned (.bool true) ∧ Below v.heap.size v w') := fun v h => none_true [] v (by decide) h.mx (by decide)
  have sl1 := slice_to s (k := k) (by omega)
  have sl2 := slice_fr s (k := k + 1) (by omega)
  obtain ⟨k1, hk1⟩ : ∃ k1, k + 1 = k1 := ⟨_, rfl⟩
  have sk : IntKind.i64.wrap ((k : Int) + 1) = (k1 : Int) := by rw [IntWalk.i64_in _ (by omega)]; omega
  have Z1 : Hid (Fits (s.take k) (enc1 c)) := by unfold Hid Fits; have := enc_len c; simp; omega
  have Z2 : Hid (Fits (s.take k ++ enc1 c) (s.drop (k + 1))) := by unfold Hid Fits; have := enc_len c; simp; omega
  have Z3 : Hid (Fits [48, 48, 48, 48, 48, 58] s) := by unfold Hid Fits; simp; omega
  have Z4 : Hid (Fits [49, 58, 50, 58, 51, 58, 52, 58, 53, 58, 54, 58, 55, 58, 56, 58] s) := by unfold Hid Fits; simp; omega
  have hen := enc_bs hc
  have hc' : (c : Int) < 256 := by omega
  have ha' : (a : Int) < 256 := by omega
  rw [hk1] at sl2 Z2 K2
  have EE : Hid (s.drop (k + 1) = s.drop k1) := by rw [hk1]; rfl
  clear hx ht hk1 EE
  obtain ⟨u8, hu8⟩ : ∃ u8, enc1 c = u8 := ⟨_, rfl⟩
  rw [hu8] at hen Z1 Z2 K2
  clear hu8
  obtain ⟨D, hD⟩ : ∃ D : Bool, D = true ↔ fineN c := by
    by_cases h : fineN c
    · exact ⟨true, by simp [h]⟩
    · exact ⟨false, by simp [h]⟩
  have HD := veil hD
  have HC : Hid (Byte c) := hc
  clear hD hn hk hc ha
  have l1 : ¬ (n : Int) < 2 := by omega
  have n0 : ¬ (n : Int) = 0 := by omega
  have PK := veil (And.intro sl1 (And.intro sl2 (And.intro sk hen)))
  clear sl1 sl2 sk hen hkn
  go_enter Tryd.func7, Tryd.ntmps7
  go_wp2_with (refine wpList_load_of rfl _ rfl rfl (M.out.load mem0 HX.out) ?_)
  generalize w.alloc (.cells (bv xs).toArray 23) = w0 at *
  refine (K1.out _ M.out.tw).mono ?_
  rintro e w1 ⟨rfl, q⟩
  have M := veil (M.out.keep q)
  clear q K1
  have c0 : (0 : Int) ≤ (c : Int) := by omega
  go_upto_region 5 with fail
  clear r1
  go_cut [9] from 20 to 49 (fun b wx => b = .bool D ∧ w1 = wx)
  case first =>
    have hcs : (48 ≤ c ∧ c ≤ 57) ∨ (97 ≤ c ∧ c ≤ 102) ∨ (65 ≤ c ∧ c ≤ 70) ∨ (c = 58) ∨ (c = 46) ∨ (c < 46) ∨ (c = 47) ∨ (59 ≤ c ∧ c < 65) ∨ (71 ≤ c ∧ c < 97) ∨ (103 ≤ c) := by have : c < 256 := HC.out; omega
    rcases hcs with hq | hq | hq | hq | hq | hq | hq | hq | hq | hq
    · have b0 : (48 : Int) ≤ (c : Int) := by omega
      have b1 : (c : Int) ≤ 57 := by omega
      have b2 : ¬ (97 : Int) ≤ (c : Int) := by omega
      have b3 : (c : Int) ≤ 102 := by omega
      have b4 : ¬ (65 : Int) ≤ (c : Int) := by omega
      have b5 : (c : Int) ≤ 70 := by omega
      have b6 : ¬ (c : Int) = 58 := by omega
      have b7 : ¬ (c : Int) = 46 := by omega
      have hDf : D = true := HD.out.2 (by unfold fineN; omega)
      have HDF := veil hDf
      clear hDf
      go_wp2_with fail
      go_meet
      refine ⟨congrArg Value.bool ?_, rfl⟩
      rw [HDF.out]
      try rfl
    · have b0 : (48 : Int) ≤ (c : Int) := by omega
      have b1 : ¬ (c : Int) ≤ 57 := by omega
      have b2 : (97 : Int) ≤ (c : Int) := by omega
      have b3 : (c : Int) ≤ 102 := by omega
      have b4 : (65 : Int) ≤ (c : Int) := by omega
      have b5 : ¬ (c : Int) ≤ 70 := by omega
      have b6 : ¬ (c : Int) = 58 := by omega
      have b7 : ¬ (c : Int) = 46 := by omega
      have hDf : D = true := HD.out.2 (by unfold fineN; omega)
      have HDF := veil hDf
      clear hDf
      go_wp2_with fail
      go_meet
      refine ⟨congrArg Value.bool ?_, rfl⟩
      rw [HDF.out]
      try rfl
    · have b0 : (48 : Int) ≤ (c : Int) := by omega
      have b1 : ¬ (c : Int) ≤ 57 := by omega
      have b2 : ¬ (97 : Int) ≤ (c : Int) := by omega
      have b3 : (c : Int) ≤ 102 := by omega
      have b4 : (65 : Int) ≤ (c : Int) := by omega
      have b5 : (c : Int) ≤ 70 := by omega
      have b6 : ¬ (c : Int) = 58 := by omega
      have b7 : ¬ (c : Int) = 46 := by omega
      have hDf : D = true := HD.out.2 (by unfold fineN; omega)
      have HDF := veil hDf
      clear hDf
      go_wp2_with fail
      go_meet
      refine ⟨congrArg Value.bool ?_, rfl⟩
      rw [HDF.out]
      try rfl
    · obtain rfl : c = 58 := by omega
      have hDf : D = true := HD.out.2 (by unfold fineN; omega)
      have HDF := veil hDf
      clear hDf
      go_wp2_with fail
      go_meet
      refine ⟨congrArg Value.bool ?_, rfl⟩
      rw [HDF.out]
      try rfl
    · obtain rfl : c = 46 := by omega
      have hDf : D = true := HD.out.2 (by unfold fineN; omega)
      have HDF := veil hDf
      clear hDf
      go_wp2_with fail
      go_meet
      refine ⟨congrArg Value.bool ?_, rfl⟩
      rw [HDF.out]
      try rfl
    · have b0 : ¬ (48 : Int) ≤ (c : Int) := by omega
      have b1 : (c : Int) ≤ 57 := by omega
      have b2 : ¬ (97 : Int) ≤ (c : Int) := by omega
      have b3 : (c : Int) ≤ 102 := by omega
      have b4 : ¬ (65 : Int) ≤ (c : Int) := by omega
      have b5 : (c : Int) ≤ 70 := by omega
      have b6 : ¬ (c : Int) = 58 := by omega
      have b7 : ¬ (c : Int) = 46 := by omega
      have hDf : D = false := by
        cases hDD : D with
        | false => rfl
        | true => exact absurd (HD.out.1 hDD) (by unfold fineN; omega)
      have HDF := veil hDf
      clear hDf
      go_wp2_with fail
      go_meet
      refine ⟨congrArg Value.bool ?_, rfl⟩
      rw [HDF.out]
      have q1 : ¬ (c : Int) = 58 := by omega
      have q2 : ¬ (c : Int) = 46 := by omega
      simp [q1, q2]
    · obtain rfl : c = 47 := by omega
      have hDf : D = false := by
        cases hDD : D with
        | false => rfl
        | true => exact absurd (HD.out.1 hDD) (by unfold fineN; omega)
      have HDF := veil hDf
      clear hDf
      go_wp2_with fail
      go_meet
      refine ⟨congrArg Value.bool ?_, rfl⟩
      rw [HDF.out]
      try rfl
    · have b0 : (48 : Int) ≤ (c : Int) := by omega
      have b1 : ¬ (c : Int) ≤ 57 := by omega
      have b2 : ¬ (97 : Int) ≤ (c : Int) := by omega
      have b3 : (c : Int) ≤ 102 := by omega
      have b4 : ¬ (65 : Int) ≤ (c : Int) := by omega
      have b5 : (c : Int) ≤ 70 := by omega
      have b6 : ¬ (c : Int) = 58 := by omega
      have b7 : ¬ (c : Int) = 46 := by omega
      have hDf : D = false := by
        cases hDD : D with
        | false => rfl
        | true => exact absurd (HD.out.1 hDD) (by unfold fineN; omega)
      have HDF := veil hDf
      clear hDf
      go_wp2_with fail
      go_meet
      refine ⟨congrArg Value.bool ?_, rfl⟩
      rw [HDF.out]
      have q1 : ¬ (c : Int) = 58 := by omega
      have q2 : ¬ (c : Int) = 46 := by omega
      simp [q1, q2]
    · have b0 : (48 : Int) ≤ (c : Int) := by omega
      have b1 : ¬ (c : Int) ≤ 57 := by omega
      have b2 : ¬ (97 : Int) ≤ (c : Int) := by omega
      have b3 : (c : Int) ≤ 102 := by omega
      have b4 : (65 : Int) ≤ (c : Int) := by omega
      have b5 : ¬ (c : Int) ≤ 70 := by omega
      have b6 : ¬ (c : Int) = 58 := by omega
      have b7 : ¬ (c : Int) = 46 := by omega
      have hDf : D = false := by
        cases hDD : D with
        | false => rfl
        | true => exact absurd (HD.out.1 hDD) (by unfold fineN; omega)
      have HDF := veil hDf
      clear hDf
      go_wp2_with fail
      go_meet
      refine ⟨congrArg Value.bool ?_, rfl⟩
      rw [HDF.out]
      have q1 : ¬ (c : Int) = 58 := by omega
      have q2 : ¬ (c : Int) = 46 := by omega
      simp [q1, q2]
    · have b0 : (48 : Int) ≤ (c : Int) := by omega
      have b1 : ¬ (c : Int) ≤ 57 := by omega
      have b2 : (97 : Int) ≤ (c : Int) := by omega
      have b3 : ¬ (c : Int) ≤ 102 := by omega
      have b4 : (65 : Int) ≤ (c : Int) := by omega
      have b5 : ¬ (c : Int) ≤ 70 := by omega
      have b6 : ¬ (c : Int) = 58 := by omega
      have b7 : ¬ (c : Int) = 46 := by omega
      have hDf : D = false := by
        cases hDD : D with
        | false => rfl
        | true => exact absurd (HD.out.1 hDD) (by unfold fineN; omega)
      have HDF := veil hDf
      clear hDf
      go_wp2_with fail
      go_meet
      refine ⟨congrArg Value.bool ?_, rfl⟩
      rw [HDF.out]
      have q1 : ¬ (c : Int) = 58 := by omega
      have q2 : ¬ (c : Int) = 46 := by omega
      simp [q1, q2]
  case rest =>
    obtain ⟨rfl, rfl⟩ := hcut
    go_upto_region 6 with fail
    go_cut [67] from 50 to 67 (fun b wx => b = .bool false ∧ Hid (Bt w wx [(w.heap.size, xs)]))
    case first =>
      cases hDD : D with
      | true =>
        subst hDD
        have M := veil M.out.drew
        refine wp_region_noPanic ?_
        refine wp_region_held_drew (S := (fun _ => True)) (by kernel_rfl) trivial (fun hHeld => ?_)
        refine wpAnyH_take (i := 0) (v := ?_) (by rfl) (by kernel_rfl) (by kernel_rfl) (by kernel_rfl) (fun _ _ _ h => h) (Or.inl ⟨by rfl, ?_⟩) hHeld ?_
        rotate_left
        · intro w' hSw
          (try dsimp only at hSw)
          simp only [List.getElem_toArray, List.getElem_cons_zero, List.getElem_cons_succ]
          go_simp
          all_goals (try with_reducible rfl)
        try simp only [Act.put, List.setIfInBounds_toArray, List.set_cons_zero, List.set_cons_succ, List.getElem_toArray, List.getElem_cons_zero, List.getElem_cons_succ]
        refine wpAnyH_take (i := 1) (v := ?_) (by rfl) (by kernel_rfl) (by kernel_rfl) (by kernel_rfl) (fun _ _ _ h => h) (Or.inl ⟨by rfl, ?_⟩) hHeld ?_
        rotate_left
        · intro w' hSw
          (try dsimp only at hSw)
          simp only [List.getElem_toArray, List.getElem_cons_zero, List.getElem_cons_succ]
          go_simp
          all_goals (try with_reducible rfl)
        try simp only [Act.put, List.setIfInBounds_toArray, List.set_cons_zero, List.set_cons_succ, List.getElem_toArray, List.getElem_cons_zero, List.getElem_cons_succ]
        refine wpAnyH_take (i := 2) (v := ?_) (by rfl) (by kernel_rfl) (by kernel_rfl) (by kernel_rfl) (fun _ _ _ h => h) (Or.inl ⟨by rfl, ?_⟩) hHeld ?_
        rotate_left
        · intro w' hSw
          (try dsimp only at hSw)
          simp only [List.getElem_toArray, List.getElem_cons_zero, List.getElem_cons_succ]
          go_simp
          all_goals (try with_reducible rfl)
        try simp only [Act.put, List.setIfInBounds_toArray, List.set_cons_zero, List.set_cons_succ, List.getElem_toArray, List.getElem_cons_zero, List.getElem_cons_succ]
        refine wpAnyH_take (i := 3) (v := undef) (by rfl) (by kernel_rfl) (by kernel_rfl) (by kernel_rfl) (fun _ _ _ h => h) (Or.inr ⟨by rfl, rfl⟩) hHeld ?_
        try simp only [Act.put, List.setIfInBounds_toArray, List.set_cons_zero, List.set_cons_succ, List.getElem_toArray, List.getElem_cons_zero, List.getElem_cons_succ]
        refine wpAnyH_take (i := 4) (v := undef) (by rfl) (by kernel_rfl) (by kernel_rfl) (by kernel_rfl) (fun _ _ _ h => h) (Or.inr ⟨by rfl, rfl⟩) hHeld ?_
        try simp only [Act.put, List.setIfInBounds_toArray, List.set_cons_zero, List.set_cons_succ, List.getElem_toArray, List.getElem_cons_zero, List.getElem_cons_succ]
        refine wpAnyH_take (i := 5) (v := undef) (by rfl) (by kernel_rfl) (by kernel_rfl) (by kernel_rfl) (fun _ _ _ h => h) (Or.inr ⟨by rfl, rfl⟩) hHeld ?_
        try simp only [Act.put, List.setIfInBounds_toArray, List.set_cons_zero, List.set_cons_succ, List.getElem_toArray, List.getElem_cons_zero, List.getElem_cons_succ]
        refine wpAnyH_take (i := 6) (v := undef) (by rfl) (by kernel_rfl) (by kernel_rfl) (by kernel_rfl) (fun _ _ _ h => h) (Or.inr ⟨by rfl, rfl⟩) hHeld ?_
        try simp only [Act.put, List.setIfInBounds_toArray, List.set_cons_zero, List.set_cons_succ, List.getElem_toArray, List.getElem_cons_zero, List.getElem_cons_succ]
        refine wpAnyH_take (i := 7) (v := undef) (by rfl) (by kernel_rfl) (by kernel_rfl) (by kernel_rfl) (fun _ _ _ h => h) (Or.inr ⟨by rfl, rfl⟩) hHeld ?_
        try simp only [Act.put, List.setIfInBounds_toArray, List.set_cons_zero, List.set_cons_succ, List.getElem_toArray, List.getElem_cons_zero, List.getElem_cons_succ]
        refine wpAnyH_take (i := 8) (v := undef) (by rfl) (by kernel_rfl) (by kernel_rfl) (by kernel_rfl) (fun _ _ _ h => h) (Or.inr ⟨by rfl, rfl⟩) hHeld ?_
        try simp only [Act.put, List.setIfInBounds_toArray, List.set_cons_zero, List.set_cons_succ, List.getElem_toArray, List.getElem_cons_zero, List.getElem_cons_succ]
        refine wpAnyH_take (i := 9) (v := undef) (by rfl) (by kernel_rfl) (by kernel_rfl) (by kernel_rfl) (fun _ _ _ h => h) (Or.inr ⟨by rfl, rfl⟩) hHeld ?_
        try simp only [Act.put, List.setIfInBounds_toArray, List.set_cons_zero, List.set_cons_succ, List.getElem_toArray, List.getElem_cons_zero, List.getElem_cons_succ]
        refine wpAnyH_take (i := 10) (v := undef) (by rfl) (by kernel_rfl) (by kernel_rfl) (by kernel_rfl) (fun _ _ _ h => h) (Or.inr ⟨by rfl, rfl⟩) hHeld ?_
        try simp only [Act.put, List.setIfInBounds_toArray, List.set_cons_zero, List.set_cons_succ, List.getElem_toArray, List.getElem_cons_zero, List.getElem_cons_succ]
        refine wpAnyH_take (i := 11) (v := undef) (by rfl) (by kernel_rfl) (by kernel_rfl) (by kernel_rfl) (fun _ _ _ h => h) (Or.inr ⟨by rfl, rfl⟩) hHeld ?_
        try simp only [Act.put, List.setIfInBounds_toArray, List.set_cons_zero, List.set_cons_succ, List.getElem_toArray, List.getElem_cons_zero, List.getElem_cons_succ]
        refine wpAnyH_take (i := 12) (v := undef) (by rfl) (by kernel_rfl) (by kernel_rfl) (by kernel_rfl) (fun _ _ _ h => h) (Or.inr ⟨by rfl, rfl⟩) hHeld ?_
        try simp only [Act.put, List.setIfInBounds_toArray, List.set_cons_zero, List.set_cons_succ, List.getElem_toArray, List.getElem_cons_zero, List.getElem_cons_succ]
        refine wpAnyH_take (i := 13) (v := undef) (by rfl) (by kernel_rfl) (by kernel_rfl) (by kernel_rfl) (fun _ _ _ h => h) (Or.inr ⟨by rfl, rfl⟩) hHeld ?_
        try simp only [Act.put, List.setIfInBounds_toArray, List.set_cons_zero, List.set_cons_succ, List.getElem_toArray, List.getElem_cons_zero, List.getElem_cons_succ]
        refine wpAnyH_take (i := 14) (v := undef) (by rfl) (by kernel_rfl) (by kernel_rfl) (by kernel_rfl) (fun _ _ _ h => h) (Or.inr ⟨by rfl, rfl⟩) hHeld ?_
        try simp only [Act.put, List.setIfInBounds_toArray, List.set_cons_zero, List.set_cons_succ, List.getElem_toArray, List.getElem_cons_zero, List.getElem_cons_succ]
        refine wpAnyH_take (i := 15) (v := undef) (by rfl) (by kernel_rfl) (by kernel_rfl) (by kernel_rfl) (fun _ _ _ h => h) (Or.inr ⟨by rfl, rfl⟩) hHeld ?_
        try simp only [Act.put, List.setIfInBounds_toArray, List.set_cons_zero, List.set_cons_succ, List.getElem_toArray, List.getElem_cons_zero, List.getElem_cons_succ]
        refine wpAnyH_take (i := 16) (v := undef) (by rfl) (by kernel_rfl) (by kernel_rfl) (by kernel_rfl) (fun _ _ _ h => h) (Or.inr ⟨by rfl, rfl⟩) hHeld ?_
        try simp only [Act.put, List.setIfInBounds_toArray, List.set_cons_zero, List.set_cons_succ, List.getElem_toArray, List.getElem_cons_zero, List.getElem_cons_succ]
        refine wpAnyH_take (i := 17) (v := ?_) (by rfl) (by kernel_rfl) (by kernel_rfl) (by kernel_rfl) (fun _ _ _ h => h) (Or.inl ⟨by rfl, ?_⟩) hHeld ?_
        rotate_left
        · intro w' hSw
          (try dsimp only at hSw)
          simp only [List.getElem_toArray, List.getElem_cons_zero, List.getElem_cons_succ]
          go_simp
          all_goals (try with_reducible rfl)
        try simp only [Act.put, List.setIfInBounds_toArray, List.set_cons_zero, List.set_cons_succ, List.getElem_toArray, List.getElem_cons_zero, List.getElem_cons_succ]
        refine wpAnyH_done (by kernel_rfl) ?_ _
        refine NoPanic.normal ?_
        clear hHeld
        go_wp2_with fail
        go_meet
        exact ⟨rfl, M.out⟩
      | false =>
        have K2 := veil (K2.out (fun hf => by have := HD.out.2 hf; rw [hDD] at this; cases this))
        subst hDD
        have M := veil M.out.drew
        obtain ⟨sl1, sl2, sk, hen⟩ := PK.out
        have HEN := veil hen
        clear PK hen
        obtain ⟨sa, hsa⟩ : ∃ sa, s.take k = sa := ⟨_, rfl⟩
        obtain ⟨sc, hsc⟩ : ∃ sc, s.drop k1 = sc := ⟨_, rfl⟩
        rw [hsa] at sl1 Z1 Z2 K2
        rw [hsc] at sl2 Z2 K2
        obtain ⟨sb, hsb⟩ : ∃ sb, sa ++ u8 = sb := ⟨_, rfl⟩
        rw [hsb] at Z2 K2
        obtain ⟨sd, hsd⟩ : ∃ sd, sb ++ sc = sd := ⟨_, rfl⟩
        rw [hsd] at K2
        have HS1 := veil hsb
        have HS2 := veil hsd
        clear hsa hsb hsc hsd
        refine wp_region_noPanic ?_
        refine wp_region_held_drew (S := (fun _ => True)) (by kernel_rfl) trivial (fun hHeld => ?_)
        refine wpAnyH_take (i := 0) (v := ?_) (by rfl) (by kernel_rfl) (by kernel_rfl) (by kernel_rfl) (fun _ _ _ h => h) (Or.inl ⟨by rfl, ?_⟩) hHeld ?_
        rotate_left
        · intro w' hSw
          (try dsimp only at hSw)
          simp only [List.getElem_toArray, List.getElem_cons_zero, List.getElem_cons_succ]
          go_simp
          all_goals (try with_reducible rfl)
        try simp only [Act.put, List.setIfInBounds_toArray, List.set_cons_zero, List.set_cons_succ, List.getElem_toArray, List.getElem_cons_zero, List.getElem_cons_succ]
        refine wpAnyH_take (i := 1) (v := ?_) (by rfl) (by kernel_rfl) (by kernel_rfl) (by kernel_rfl) (fun _ _ _ h => h) (Or.inl ⟨by rfl, ?_⟩) hHeld ?_
        rotate_left
        · intro w' hSw
          (try dsimp only at hSw)
          simp only [List.getElem_toArray, List.getElem_cons_zero, List.getElem_cons_succ]
          go_simp
          all_goals (try with_reducible rfl)
        try simp only [Act.put, List.setIfInBounds_toArray, List.set_cons_zero, List.set_cons_succ, List.getElem_toArray, List.getElem_cons_zero, List.getElem_cons_succ]
        refine wpAnyH_take (i := 2) (v := ?_) (by rfl) (by kernel_rfl) (by kernel_rfl) (by kernel_rfl) (fun _ _ _ h => h) (Or.inl ⟨by rfl, ?_⟩) hHeld ?_
        rotate_left
        · intro w' hSw
          (try dsimp only at hSw)
          simp only [List.getElem_toArray, List.getElem_cons_zero, List.getElem_cons_succ]
          go_simp
          all_goals (try with_reducible rfl)
        try simp only [Act.put, List.setIfInBounds_toArray, List.set_cons_zero, List.set_cons_succ, List.getElem_toArray, List.getElem_cons_zero, List.getElem_cons_succ]
        refine wpAnyH_take (i := 3) (v := ?_) (by rfl) (by kernel_rfl) (by kernel_rfl) (by kernel_rfl) (fun _ _ _ h => h) (Or.inl ⟨by rfl, ?_⟩) hHeld ?_
        rotate_left
        · intro w' hSw
          (try dsimp only at hSw)
          simp only [List.getElem_toArray, List.getElem_cons_zero, List.getElem_cons_succ]
          go_simp
          all_goals (try with_reducible rfl)
        try simp only [Act.put, List.setIfInBounds_toArray, List.set_cons_zero, List.set_cons_succ, List.getElem_toArray, List.getElem_cons_zero, List.getElem_cons_succ]
        refine wpAnyH_take (i := 4) (v := ?_) (by rfl) (by kernel_rfl) (by kernel_rfl) (by kernel_rfl) (fun _ _ _ h => h) (Or.inl ⟨by rfl, ?_⟩) hHeld ?_
        rotate_left
        · intro w' hSw
          (try dsimp only at hSw)
          simp only [List.getElem_toArray, List.getElem_cons_zero, List.getElem_cons_succ]
          go_simp
          all_goals (try with_reducible rfl)
        try simp only [Act.put, List.setIfInBounds_toArray, List.set_cons_zero, List.set_cons_succ, List.getElem_toArray, List.getElem_cons_zero, List.getElem_cons_succ]
        refine wpAnyH_take (i := 5) (v := ?_) (by rfl) (by kernel_rfl) (by kernel_rfl) (by kernel_rfl) (fun _ _ _ h => h) (Or.inl ⟨by rfl, ?_⟩) hHeld ?_
        rotate_left
        · intro w' hSw
          (try dsimp only at hSw)
          simp only [List.getElem_toArray, List.getElem_cons_zero, List.getElem_cons_succ]
          go_simp
          all_goals (try with_reducible rfl)
        try simp only [Act.put, List.setIfInBounds_toArray, List.set_cons_zero, List.set_cons_succ, List.getElem_toArray, List.getElem_cons_zero, List.getElem_cons_succ]
        refine wpAnyH_take (i := 6) (v := ?_) (by rfl) (by kernel_rfl) (by kernel_rfl) (by kernel_rfl) (fun _ _ _ h => h) (Or.inl ⟨by rfl, ?_⟩) hHeld ?_
        rotate_left
        · intro w' hSw
          (try dsimp only at hSw)
          simp only [List.getElem_toArray, List.getElem_cons_zero, List.getElem_cons_succ]
          go_simp
          all_goals (try with_reducible rfl)
        try simp only [Act.put, List.setIfInBounds_toArray, List.set_cons_zero, List.set_cons_succ, List.getElem_toArray, List.getElem_cons_zero, List.getElem_cons_succ]
        refine wpAnyH_take (i := 7) (v := _) (by rfl) (by kernel_rfl) (by kernel_rfl) (by kernel_rfl) (fun _ _ _ h => h) (yields_conv (v := .int .u8 c) (by rfl) _ _ _ (by rfl) rfl (conv_byte HC.out)) hHeld ?_
        try simp only [Act.put, List.setIfInBounds_toArray, List.set_cons_zero, List.set_cons_succ, List.getElem_toArray, List.getElem_cons_zero, List.getElem_cons_succ]
        refine wpAnyH_take (i := 8) (v := _) (by rfl) (by kernel_rfl) (by kernel_rfl) (by kernel_rfl) (fun _ _ _ h => h) (yields_conv (v := .int .i32 c) (by rfl) _ _ _ (by rfl) rfl (conv_rune HEN.out)) hHeld ?_
        try simp only [Act.put, List.setIfInBounds_toArray, List.set_cons_zero, List.set_cons_succ, List.getElem_toArray, List.getElem_cons_zero, List.getElem_cons_succ]
        refine wpAnyH_take (i := 9) (v := _) (by rfl) (by kernel_rfl) (by kernel_rfl) (by kernel_rfl) (fun _ _ _ h => h) (yields_as (s := sa) (t := u8) (r := sb) HS1.out (by rfl) _ _ (by rfl) rfl rfl Z1.out) hHeld ?_
        try simp only [Act.put, List.setIfInBounds_toArray, List.set_cons_zero, List.set_cons_succ, List.getElem_toArray, List.getElem_cons_zero, List.getElem_cons_succ]
        refine wpAnyH_take (i := 10) (v := ?_) (by rfl) (by kernel_rfl) (by kernel_rfl) (by kernel_rfl) (fun _ _ _ h => h) (Or.inl ⟨by rfl, ?_⟩) hHeld ?_
        rotate_left
        · intro w' hSw
          (try dsimp only at hSw)
          simp only [List.getElem_toArray, List.getElem_cons_zero, List.getElem_cons_succ]
          go_simp
          all_goals (try with_reducible rfl)
        try simp only [Act.put, List.setIfInBounds_toArray, List.set_cons_zero, List.set_cons_succ, List.getElem_toArray, List.getElem_cons_zero, List.getElem_cons_succ]
        refine wpAnyH_take (i := 11) (v := ?_) (by rfl) (by kernel_rfl) (by kernel_rfl) (by kernel_rfl) (fun _ _ _ h => h) (Or.inl ⟨by rfl, ?_⟩) hHeld ?_
        rotate_left
        · intro w' hSw
          (try dsimp only at hSw)
          simp only [List.getElem_toArray, List.getElem_cons_zero, List.getElem_cons_succ]
          go_simp
          all_goals (try with_reducible rfl)
        try simp only [Act.put, List.setIfInBounds_toArray, List.set_cons_zero, List.set_cons_succ, List.getElem_toArray, List.getElem_cons_zero, List.getElem_cons_succ]
        refine wpAnyH_take (i := 12) (v := ?_) (by rfl) (by kernel_rfl) (by kernel_rfl) (by kernel_rfl) (fun _ _ _ h => h) (Or.inl ⟨by rfl, ?_⟩) hHeld ?_
        rotate_left
        · intro w' hSw
          (try dsimp only at hSw)
          simp only [List.getElem_toArray, List.getElem_cons_zero, List.getElem_cons_succ]
          go_simp
          all_goals (try with_reducible rfl)
        try simp only [Act.put, List.setIfInBounds_toArray, List.set_cons_zero, List.set_cons_succ, List.getElem_toArray, List.getElem_cons_zero, List.getElem_cons_succ]
        refine wpAnyH_take (i := 13) (v := ?_) (by rfl) (by kernel_rfl) (by kernel_rfl) (by kernel_rfl) (fun _ _ _ h => h) (Or.inl ⟨by rfl, ?_⟩) hHeld ?_
        rotate_left
        · intro w' hSw
          (try dsimp only at hSw)
          simp only [List.getElem_toArray, List.getElem_cons_zero, List.getElem_cons_succ]
          go_simp
          all_goals (try with_reducible rfl)
        try simp only [Act.put, List.setIfInBounds_toArray, List.set_cons_zero, List.set_cons_succ, List.getElem_toArray, List.getElem_cons_zero, List.getElem_cons_succ]
        refine wpAnyH_take (i := 14) (v := _) (by rfl) (by kernel_rfl) (by kernel_rfl) (by kernel_rfl) (fun _ _ _ h => h) (yields_as (s := sb) (t := sc) (r := sd) HS2.out (by rfl) _ _ (by rfl) rfl rfl Z2.out) hHeld ?_
        try simp only [Act.put, List.setIfInBounds_toArray, List.set_cons_zero, List.set_cons_succ, List.getElem_toArray, List.getElem_cons_zero, List.getElem_cons_succ]
        refine wpAnyH_ready (rs := [15]) (by kernel_rfl) (by simp) ?_
        refine AllReadyH.cons (by rfl) (fun K hK => ?_) AllReadyH.nil
        simp only [List.getElem_toArray, List.getElem_cons_zero, List.getElem_cons_succ]
        go_simp
        refine (K2.out _ M.out.tw).mono ?_
        rintro e w2 ⟨rfl, q⟩
        have M := veil (M.out.keep q)
        clear q
        (try dsimp only)
        refine hK.out _ _ trivial (fun hHeld => ?_)
        clear hK K
        try simp only [Act.put, List.setIfInBounds_toArray, List.set_cons_zero, List.set_cons_succ, List.getElem_toArray, List.getElem_cons_zero, List.getElem_cons_succ]
        refine wpAnyH_take (i := 16) (v := ?_) (by rfl) (by kernel_rfl) (by kernel_rfl) (by kernel_rfl) (fun _ _ _ h => h) (Or.inl ⟨by rfl, ?_⟩) hHeld ?_
        rotate_left
        · intro w' hSw
          (try dsimp only at hSw)
          simp only [List.getElem_toArray, List.getElem_cons_zero, List.getElem_cons_succ]
          go_simp
          all_goals (try with_reducible rfl)
        try simp only [Act.put, List.setIfInBounds_toArray, List.set_cons_zero, List.set_cons_succ, List.getElem_toArray, List.getElem_cons_zero, List.getElem_cons_succ]
        refine wpAnyH_take (i := 17) (v := ?_) (by rfl) (by kernel_rfl) (by kernel_rfl) (by kernel_rfl) (fun _ _ _ h => h) (Or.inl ⟨by rfl, ?_⟩) hHeld ?_
        rotate_left
        · intro w' hSw
          (try dsimp only at hSw)
          simp only [List.getElem_toArray, List.getElem_cons_zero, List.getElem_cons_succ]
          go_simp
          all_goals (try with_reducible rfl)
        try simp only [Act.put, List.setIfInBounds_toArray, List.set_cons_zero, List.set_cons_succ, List.getElem_toArray, List.getElem_cons_zero, List.getElem_cons_succ]
        refine wpAnyH_done (by kernel_rfl) ?_ _
        refine NoPanic.normal ?_
        clear hHeld
        go_wp2_with fail
        go_meet
        exact ⟨rfl, M.out⟩
    case rest =>
      obtain ⟨rfl, M⟩ := hcut
      clear K2 PK Z1 Z2
      go_wp2_with (refine wpList_add_of [48, 48, 48, 48, 48, 58] s rfl _ _ rfl rfl rfl Z3.out ?_)
      refine (K3.out _ M.out.tw).mono ?_
      rintro e w2 ⟨rfl, q⟩
      have M := veil (M.out.keep q)
      clear q K3
      go_wp2_with (refine wpList_add_of [49, 58, 50, 58, 51, 58, 52, 58, 53, 58, 54, 58, 55, 58, 56, 58] s rfl _ _ rfl rfl rfl Z4.out ?_)
      refine (K4.out _ M.out.tw).mono ?_
      rintro e w3 ⟨rfl, q⟩
      have M := veil (M.out.keep q)
      clear q K4
      go_wp2_with fail
      refine (K5.out _ M.out.tw).mono ?_
      rintro e w4 ⟨rfl, q⟩
      have M := veil (M.out.keep q)
      clear q K5
      go_wp2_with fail
      refine (lives_true _ M.out.tw).mono ?_
      rintro e w5 ⟨rfl, q⟩
      have M := veil (M.out.keep q)
      clear q
      go_wp2_with fail
      go_ret
      exact ⟨rfl, M.out.below⟩

theorem own : ownKnob Tryd.prog.godebug = none := by kernel_rfl
theorem readable : ∀ t ∈ Tryd.f7.params.toList, Tryd.prog.readableRec t = true ∧ t < Tryd.prog.types.size := by
  rw [Tryd.params7]
  intro t ht
  simp at ht
  rcases ht with rfl | rfl
  · exact ⟨by kernel_rfl, of_decide_eq_true (by kernel_rfl)⟩
  · exact ⟨by kernel_rfl, of_decide_eq_true (by kernel_rfl)⟩

set_option maxRecDepth 100000 in
theorem lifted (os : Os) (started : os.Started) (H : Type) (enc : TypeId × Value → H) :
    ReturnsInHanded {} Tryd.checked os 7 .any (fun w args => (Rows.textsWrongSpec.pre enc Tryd.prog Tryd.f7 [] false w args ∧ laidMetH Tryd.prog laid3 w) ∧ sizedMet enc Tryd.prog Tryd.f7 (OpenSpec.ofChange Rows.textsWrongSpec) false w args)
      (Rows.textsWrongSpec.post enc Tryd.prog Tryd.f7 false true false false) := by
  refine returns_shaped (C := Tryd.checked) (X := fun w _ => laidMetH Tryd.prog laid3 w) (fun _ _ _ hh h => h.of_heap hh) own started (by kernel_rfl) Tryd.func7
    (ChangeSpec.witness_shaped (enc := enc) (C := Tryd.checked) (os := os) (X := fun w _ => laidMetH Tryd.prog laid3 w) false (World.doorLaid Tryd.prog 2000 os) #[.agg #[.int .u8 0, .int .u8 0, .int .u8 0, .int .u8 0, .int .u8 0, .int .u8 0, .int .u8 0, .int .u8 0, .int .u8 0, .int .u8 0, .int .u8 0, .int .u8 0, .int .u8 0, .int .u8 0, .int .u8 0, .int .u8 0], .int .u8 0, .int .u8 0] 8 rfl (World.shaped_of_RefB (by kernel_rfl) (by kernel_rfl)) (by kernel_rfl) (by kernel_rfl) (by kernel_rfl) (door_met os _)) ?_
  intro W base args ds gs before hval0 hW hL hSh
  have hval : ∀ (j : Nat) t v, Tryd.f7.params[j]? = some t → args[j]? = some v → Value.okWide Tryd.prog W .any base t v := hval0
  have hW' := hW
  obtain ⟨p, q, hA0, hV, rfl, _, _⟩ := hW
  have hA : DataW.TrodAll enc Tryd.prog W 0 (fun _ => true) true Tryd.f7.params.toList args.toList ds p := hA0
  rw [Tryd.params7] at hA hval
  obtain ⟨v0, vs0, d0, ds0, p0, q0, hargs, rfl, rfl, h0, r0⟩ := trodAll_cons hA
  obtain ⟨v1, vs1, d1, ds1, p1, q1, rfl, rfl, rfl, h1, r1⟩ := trodAll_cons r0
  obtain ⟨v2, vs2, d2, ds2, p2, q2, rfl, rfl, rfl, h2, r2⟩ := trodAll_cons r1
  obtain ⟨rfl, rfl, rfl⟩ := trodAll_nil r2
  obtain rfl : args = #[v0, v1, v2] := by cases args; simp_all
  obtain ⟨rfl, rfl⟩ := trodVars_none hV
  have hk := tw_of hL hSh
  obtain ⟨xs, rfl, hx⟩ := open_addr (hval 0 _ _ rfl rfl) h0
  obtain ⟨c, rfl, hc⟩ := open_byte (hval 1 _ _ rfl rfl) h1
  obtain ⟨a, rfl, ha⟩ := open_byte (hval 2 _ _ rfl rfl) h2
  have hw : Calls Tryd.prog 7 #[av xs, .int .u8 c, .int .u8 a] W fun e w' => e = .returned (.bool true) ∧ Below W.heap.size W w' := by
    exact walk xs c a W hx hc ha hk
  refine hw.mono fun e W' ⟨he, hb⟩ => ?_
  subst he
  exact ⟨_, rfl, law_post (by kernel_rfl) rfl rfl Tryd.underlying4 readable hW' rfl hb⟩

/-- TextsWrong: the row, as given -/
theorem row : Rows.TextsWrongSaid :=
  OpenClaim.holds_of_wide 7 Tryd.f7 rfl rfl rfl rfl rfl rfl rfl ⟨rfl, rfl, rfl, rfl, rfl⟩ rfl rfl rfl rfl rfl (by kernel_rfl) Tryd.func7 (by kernel_rfl)
    (of_decide_eq_true (by kernel_rfl)) (by unfold Func.isWrapper; first | (rw [if_pos (by decide +kernel)]; kernel_rfl) | (rw [if_neg (by decide +kernel)]; exact ⟨rfl, rfl⟩))
    (fun os started H enc _ => lifted os started H enc)

/-- TextsWrong: the tied card, as given -/
theorem holds : Rows.TextsWrongCardSaid :=
  Claim7.holds_tied_plain_at .later [] [.data, .data, .data] true Rows.textsWrongCard.stood.harness false
    row (fun _ h => by cases h) (by kernel_rfl) (fun _ h => by cases h) textsWrong_row_tie rfl ⟨rfl, rfl⟩ (by kernel_rfl) rfl
    (fun f fn hf hfn => by
      obtain rfl : f = 7 := Option.some.inj ((show Tryd.prog.funcNamed "sojourner/sojournerlaw07.TextsWrong" = some 7 by kernel_rfl).symm.trans hf) |>.symm
      obtain rfl : fn = Tryd.f7 := (Option.some.inj (Tryd.func7.symm.trans hfn)).symm
      exact ⟨by kernel_rfl, fun j t ht => by
        rw [Tryd.params7] at ht
        have hm : t ∈ [23, 5] := by simpa using Array.mem_of_getElem? ht
        have hall : ([23, 5].all fun u => !Tryd.prog.wantsStandIn u) = true := by kernel_rfl
        exact (show Tryd.prog.wantsStandIn t = false by simpa using List.all_eq_true.1 hall t hm)⟩)
    (by kernel_rfl)

#print axioms holds
end Go.Proofs.YtfaaogidbpfelaaDoor.textsWrong
