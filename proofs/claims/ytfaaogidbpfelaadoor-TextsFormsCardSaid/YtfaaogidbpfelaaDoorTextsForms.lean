/-
  TextsForms: an address whose groups are all written out, in four digits each, small or capital ones, with decimals at the end, or not, is got, and with any noughts of it as two colons: the law returns true for every input, and its arguments read as before; the library's tables are tied to the program's text.
  Conditions: none.
-/
import Derived.Test.YtfaaogidbpfelaaDoorTxtN
import Derived.Test.YtfaaogidbpfelaaDoorTxtW
import Derived.Test.YtfaaogidbpfelaaDoorTie
import Derived.Test.YtfaaogidbpfelaaDoorCards
import Derived.SevenTiedAt
import Derived.Deep.CutRange
namespace Go.Proofs.YtfaaogidbpfelaaDoor.textsForms
open Go.ChangeShapes Go.WideShapes Go.ChangeAt Go.RowKit Go.Proofs.YtfaaogidbpfelaaDoor.Tx Go.Proofs.YtfaaogidbpfelaaDoor.Ad

/-- the law's memory: the address in block a, eight texts in block g -/
structure Fm (w0 w : World) (a g : Nat) (xs : List Int) (ss : List Str) : Prop where
  tw0 : Tw w0
  ra : Row w a 23 (bv xs).toArray
  rg : Row w g 34 (sv ss).toArray
  below : Below w0.heap.size w0 w
  la : w0.heap.size ≤ a
  lg : w0.heap.size ≤ g
  ne : a ≠ g
theorem Fm.tw {w0 w : World} {a g : Nat} {xs : List Int} {ss : List Str} (h : Fm w0 w a g xs ss) : Tw w := h.tw0.keep h.below
theorem Fm.keep {w0 w w' : World} {a g : Nat} {xs : List Int} {ss : List Str} (h : Fm w0 w a g xs ss) (q : Below w.heap.size w w') : Fm w0 w' a g xs ss :=
  ⟨h.tw0, h.ra.keep q, h.rg.keep q, h.below.trans (q.mono h.below.size), h.la, h.lg, h.ne⟩
theorem Fm.drew {w0 w : World} {a g : Nat} {xs : List Int} {ss : List Str} (h : Fm w0 w a g xs ss) : Fm w0 w.drew a g xs ss := ⟨h.tw0, still_row h.ra, still_row h.rg, still_below h.below, h.la, h.lg, h.ne⟩
theorem sv_set (ss : List Str) (j : Nat) (s : Str) : (sv ss).toArray.setIfInBounds j (.string (bs s)) = (sv (ss.set j s)).toArray := by simp [sv, List.map_set]
theorem Fm.put {w0 w : World} {a g : Nat} {xs : List Int} {ss : List Str} (h : Fm w0 w a g xs ss) (j : Nat) (s : Str) : Fm w0 (w.setCell ⟨g, j, none⟩ (.string (bs s))) a g xs (ss.set j s) :=
  ⟨h.tw0, h.ra.far (p := ⟨g, j, none⟩) h.ne _, by have := h.rg.set j (.string (bs s)); rwa [sv_set] at this, h.below.setCell (p := ⟨g, j, none⟩) h.lg _, h.la, h.lg, h.ne⟩
theorem Fm.byte {w0 w : World} {a g : Nat} {xs : List Int} {ss : List Str} (h : Fm w0 w a g xs ss) {j : Nat} (hj : j < xs.length) : w.cell? ⟨a, j, none⟩ = some (.int .u8 (xs.getD j 0)) := rng_at (rng_row h.ra) hj
theorem Fm.word {w0 w : World} {a g : Nat} {xs : List Int} {ss : List Str} (h : Fm w0 w a g xs ss) {j : Nat} (hj : j < ss.length) : w.cell? ⟨g, j, none⟩ = some (.string (bs (ss.getD j []))) := by
  rw [h.rg.cell, List.getElem?_toArray]
  exact sv_get ss j hj
theorem Fm.froz {w0 w : World} {a g : Nat} {xs : List Int} {ss : List Str} (h : Fm w0 w a g xs ss) (j : Nat) : w.frozen? ⟨g, j, none⟩ = false := h.rg.frozen j
/-- the texts ahead of group j -/
def gfill (l : List Str) (j : Nat) : List Str := l.take j ++ List.replicate (8 - j) []
theorem gfill_len {l : List Str} (hl : l.length = 8) {j : Nat} (hj : j ≤ 8) : (gfill l j).length = 8 := by simp [gfill, hl]; omega
theorem gfill_set {l : List Str} (hl : l.length = 8) {j : Nat} (hj : j < 8) : (gfill l j).set j (l.getD j []) = gfill l (j + 1) := by
  unfold gfill
  apply List.ext_getElem
  · simp [hl]; omega
  · intro k h1 h2
    have hk : k < 8 := by simp [hl] at h2; omega
    rw [List.getElem_set]
    by_cases e : j = k
    · subst e
      rw [if_pos rfl, List.getElem_append_left (by simp [hl]; omega), List.getElem_take, getD_of l [] (by omega)]
    · rw [if_neg e]
      by_cases e2 : k < j
      · rw [List.getElem_append_left (by simp [hl]; omega), List.getElem_append_left (by simp [hl]; omega), List.getElem_take, List.getElem_take]
      · rw [List.getElem_append_right (by simp; omega), List.getElem_append_right (by simp; omega), List.getElem_replicate, List.getElem_replicate]
theorem gfill_end {l : List Str} (hl : l.length = 8) : gfill l 8 = l := by
  simp [gfill, List.take_of_length_le (show l.length ≤ 8 by omega)]
theorem yields_as {ops : Array Oper} {S : World → Prop} {op : Oper} {a : Act} {s t r : Str} (hr : s ++ t = r) (hw : Region.wanted op (yielded ops a.tmps) = true) (x y : Operand) (ho : op.op = .binOp .add 9 x y 9) (hx : a.eval x = .string (bs s)) (hy : a.eval y = .string (bs t)) (h : Fits s t) :
    YieldsIf Tryd.prog ops S op (.string (bs r)) a := hr ▸ yields_add hw x y ho hx hy h
/-- one bit of a byte -/
theorem bit_one {n : Nat} (h : n < 256) : bits .and .u8 (n : Int) 1 = ((n % 2 : Nat) : Int) := by
  unfold bits
  have h2 : ((BitVec.ofInt IntKind.u8.bits (n : Int) &&& BitVec.ofInt IntKind.u8.bits (1 : Int)).toNat) = n % 2 := by
    rw [show (1 : Int) = ((1 : Nat) : Int) from rfl, BitVec.ofInt_natCast, BitVec.ofInt_natCast, BitVec.toNat_and, BitVec.toNat_ofNat, BitVec.toNat_ofNat, Nat.mod_eq_of_lt (by show _ < 2 ^ 8; omega), Nat.mod_eq_of_lt (by show _ < 2 ^ 8; omega)]
    exact Nat.and_two_pow_sub_one_eq_mod n 1
  simp only
  rw [h2, IntKind.wrap_u8]
  omega
def bgOf (big i : Nat) : Bool := decide (big / 2 ^ i % 2 = 1)

/-- what the walk needs of an address's words -/
structure Setup (xs : List Int) (tail : Bool) (many : Nat) (ss l : List Str) : Prop where
  len : l.length = many
  same : ∀ i, i < many → ss.getD i [] = l.getD i []
  slen : ss.length = 8
  m8 : many ≤ 8
  m7 : restOf tail ≤ many
  most : ∀ w ∈ l, w.length ≤ 15
  all : get (J l) = some (grp xs)
  n1 : get (J l ++ [58]) = none
  n2 : get ([58] ++ J l) = none
  n3 : get (J l ++ [58, 58, 49]) = none
  n4 : get (J l ++ [32]) = none
  cut : ∀ f t, f < t → t ≤ restOf tail → get (J (l.take f) ++ [58, 58] ++ J (l.drop t)) = some (fill ((grp xs).take f) ((grp xs).drop t))
theorem grp_six {xs : List Int} {bt : Nat → Nat} (hb : ∀ i, bt i < 256 ∧ xs.getD i 0 = (bt i : Int)) : grp xs = (grp xs).take 6 ++ [bt 12 * 256 + bt 13, bt 14 * 256 + bt 15] := by
  have e : ∀ i, (xs.getD i 0).toNat = bt i := fun i => by rw [(hb i).2]; rfl
  unfold grp
  simp only [e]
  rfl
theorem setup_of {xs : List Int} (hx : Ok xs) (tail : Bool) (bg : Nat → Bool) {bt : Nat → Nat} (hb : ∀ i, bt i < 256 ∧ xs.getD i 0 = (bt i : Int)) {fw : Str} (hfw : four4 (bt 12) (bt 13) (bt 14) (bt 15) = fw) {l8 ss : List Str} (hl8 : W8 (grp xs) bg = l8)
    (hss : (if tail then l8.set 6 fw else l8) = ss) {many : Nat} (hm : manyOf tail = many) : ∃ l, Setup xs tail many ss l := by
  have h8 := grp_len xs
  have hl := grp_lt hx
  have h46 : (46 : UInt8) ∈ fw := hfw ▸ four4_46 _ _ _ _
  have h58 : (58 : UInt8) ∉ fw := hfw ▸ four4_58 (hb 12).1 (hb 13).1 (hb 14).1 (hb 15).1
  have hne : fw ≠ [] := by rintro rfl; simp at h46
  have hl15 : fw.length ≤ 15 := hfw ▸ four4_len _ _ _ _
  have hT : Tail (grp xs) fw := ⟨_, _, hfw ▸ fours_four (hb 12).1 (hb 13).1 (hb 14).1 (hb 15).1, grp_six hb⟩
  have hg := good_ws (grp xs) bg tail hne h58
  have hf : tail = true → Tail (grp xs) fw ∧ (46 : UInt8) ∈ fw := fun _ => ⟨hT, h46⟩
  have hlen := ws_len (grp xs) bg tail fw
  refine ⟨ws (grp xs) bg tail fw, ?_⟩
  refine { len := hlen.trans hm, same := ?_, slen := ?_, m8 := ?_, m7 := ?_, most := ?_, all := get_all h8 hl bg hg hf, n1 := get_behind hg ?_, n2 := get_colon bg hg, n3 := get_more bg hg h46, n4 := get_space _, cut := fun f t h1 h2 => get_cut h8 hl bg hg hf h1 h2 }
  · intro i hi
    rw [← hss]
    subst hl8 hm
    cases tail with
    | false => rfl
    | true =>
      have hi : i < 7 := hi
      have hw := W8_len (grp xs) bg
      simp only [ws, if_true]
      by_cases e : i = 6
      · subst e
        simp [List.getD, hw]
      · have h1 : i < ((W8 (grp xs) bg).take 6).length := by simp [hw]; omega
        simp only [List.getD]
        rw [List.getElem?_set, if_neg (fun h => e h.symm), List.getElem?_append_left h1, List.getElem?_take, if_pos (by omega)]
  · rw [← hss, ← hl8]
    split
    · rw [List.length_set, W8_len]
    · exact W8_len _ _
  · rw [← hm]
    cases tail <;> simp [manyOf]
  · rw [← hm]
    cases tail <;> simp [manyOf, restOf]
  · have h4 : ∀ w ∈ W8 (grp xs) bg, w.length ≤ 15 := by
      intro w hw
      simp [W8] at hw
      obtain ⟨i, _, rfl⟩ := hw
      simp [dig4]
    intro w hw
    cases tail with
    | false => exact h4 w hw
    | true =>
      simp only [ws, if_true] at hw
      rcases List.mem_append.1 hw with hw | hw
      · exact h4 w (List.mem_of_mem_take hw)
      · simp at hw
        subst hw
        exact hl15
  · intro e
    rw [e] at hlen
    cases tail <;> simp [manyOf] at hlen
theorem Setup.jlen {xs : List Int} {tail : Bool} {many : Nat} {ss l : List Str} (h : Setup xs tail many ss l) (i : Nat) : (J (l.take i)).length ≤ 128 := by
  have h1 := J_most (l := l.take i) (fun w hw => h.most w (List.mem_of_mem_take hw))
  have := h.m8
  rw [List.length_take, h.len] at h1
  omega
theorem Setup.jall {xs : List Int} {tail : Bool} {many : Nat} {ss l : List Str} (h : Setup xs tail many ss l) : l.take many = l := List.take_of_length_le (by rw [h.len]; exact Nat.le_refl _)
theorem Fm.far {w0 w : World} {a g c : Nat} {xs : List Int} {ss : List Str} (h : Fm w0 w a g xs ss) (k : Nat) (v : Value) (ha : a ≠ c) (hg : g ≠ c) (hc : w0.heap.size ≤ c) : Fm w0 (w.setCell ⟨c, k, none⟩ v) a g xs ss :=
  ⟨h.tw0, h.ra.far (p := ⟨c, k, none⟩) ha _, h.rg.far (p := ⟨c, k, none⟩) hg _, h.below.setCell (p := ⟨c, k, none⟩) hc _, h.la, h.lg, h.ne⟩
theorem bv_set' (zs : List Int) (k : Nat) (z : Int) : (bv zs).toArray.setIfInBounds k (.int .u8 z) = (bv (zs.set k z)).toArray := by simp [bv, List.map_set]

set_option linter.unusedSimpArgs false in
set_option maxRecDepth 100000 in
set_option maxHeartbeats 8000000 in
theorem walk (xs zs : List Int) (big z0 z1 z2 : Nat) (w : World) (hx : Ok xs) (hbig : big < 256) (hz : zs = [(z0 : Int), (z1 : Int), (z2 : Int)]) (_ : z0 < 256) (h1 : z1 < 256) (h2 : z2 < 256) (ht : Tw w) : Calls Tryd.prog 6 #[av xs, .int .u8 big, .agg (bv zs).toArray] w fun e w' => e = .returned (.bool true) ∧ Below w.heap.size w w' := by
  have q0 := below_new w (.cells (bv xs).toArray 23)
  have r0 := row_new (w := w) (g := w.heap.size) (cs := (bv xs).toArray) (t := 23) rfl
  have q1 := below_new (w.alloc (.cells (bv xs).toArray 23)) (.cells (bv zs).toArray 33)
  have r1 := row_new (w := w.alloc (.cells (bv xs).toArray 23)) (g := (w.alloc (.cells (bv xs).toArray 23)).heap.size) (cs := (bv zs).toArray) (t := 33) rfl
  have R0 := r0.keep q1
  have Q0 := q0.trans (q1.mono q0.size)
  have sz1 : (w.alloc (.cells (bv xs).toArray 23)).heap.size = w.heap.size + 1 := by simp
  have sz2 : ((w.alloc (.cells (bv xs).toArray 23)).alloc (.cells (bv zs).toArray 33)).heap.size = w.heap.size + 2 := by simp
  rw [sz1] at r1
  obtain ⟨gA, hgA⟩ : ∃ g, w.heap.size = g := ⟨_, rfl⟩
  obtain ⟨gZ, hgZ⟩ : ∃ g, gA + 1 = g := ⟨_, rfl⟩
  obtain ⟨gG, hgG⟩ : ∃ g, gA + 2 = g := ⟨_, rfl⟩
  rw [hgA] at r1 R0 sz2
  rw [hgZ] at r1
  rw [hgG] at sz2
  have HA0 : Hid (w.heap.size = gA) := hgA
  have HZG : Hid (gA + 1 = gZ ∧ gA + 2 = gG) := ⟨hgZ, hgG⟩
  obtain ⟨w2, hw2⟩ : ∃ w2, (w.alloc (.cells (bv xs).toArray 23)).alloc (.cells (bv zs).toArray 33) = w2 := ⟨_, rfl⟩
  have HW2 : Hid ((w.alloc (.cells (bv xs).toArray 23)).alloc (.cells (bv zs).toArray 33) = w2) := hw2
  rw [hw2] at r1 R0 Q0 sz2
  have c0 : w2.cell? ⟨gZ, 0, none⟩ = some (.int .u8 (z0 : Int)) := by have := rng_at (rng_row r1) (j := 0) (by rw [hz]; simp); rwa [hz] at this
  have c1 : w2.cell? ⟨gZ, 1, none⟩ = some (.int .u8 (z1 : Int)) := by have := rng_at (rng_row r1) (j := 1) (by rw [hz]; simp); rwa [hz] at this
  have c2 : w2.cell? ⟨gZ, 2, none⟩ = some (.int .u8 (z2 : Int)) := by have := rng_at (rng_row r1) (j := 2) (by rw [hz]; simp); rwa [hz] at this
  obtain ⟨d0, hd0⟩ : ∃ d, z0 % 2 = d := ⟨_, rfl⟩
  have m0 : (z0 : Int).tmod 2 = (d0 : Int) := by rw [← hd0]; exact (Int.ofNat_tmod z0 2).symm
  obtain ⟨tail, htail⟩ : ∃ b, ((d0 : Int) == 1) = b := ⟨_, rfl⟩
  obtain ⟨f, hf⟩ : ∃ f, z1 % 9 = f := ⟨_, rfl⟩
  have m1 : (z1 : Int).tmod 9 = (f : Int) := by rw [← hf]; exact (Int.ofNat_tmod z1 9).symm
  obtain ⟨k9, hk9⟩ : ∃ k, 9 - f = k := ⟨_, rfl⟩
  have hk0 : 0 < k9 := by omega
  have n9 : ¬ (k9 : Int) = 0 := by omega
  have s9 : IntKind.i64.wrap (9 - (f : Int)) = (k9 : Int) := by rw [IntWalk.i64_in _ (by omega)]; omega
  obtain ⟨r, hr⟩ : ∃ r, z2 % k9 = r := ⟨_, rfl⟩
  have m2 : (z2 : Int).tmod (k9 : Int) = (r : Int) := by rw [← hr]; exact (Int.ofNat_tmod z2 k9).symm
  have hrk : r < k9 := by rw [← hr]; exact Nat.mod_lt _ hk0
  obtain ⟨t0, ht0⟩ : ∃ t, f + r = t := ⟨_, rfl⟩
  have s0 : IntKind.i64.wrap ((f : Int) + (r : Int)) = (t0 : Int) := by rw [IntWalk.i64_in _ (by omega)]; omega
  have v1 : IntKind.i64.wrap (z1 : Int) = (z1 : Int) := by rw [IntWalk.i64_in _ (by omega)]
  have v2 : IntKind.i64.wrap (z2 : Int) = (z2 : Int) := by rw [IntWalk.i64_in _ (by omega)]
  have HF : Hid (f ≤ 8 ∧ t0 ≤ 8) := ⟨by omega, by omega⟩
  have HX := veil hx
  have HB := veil hbig
  have r2 := row_new (w := w2) (g := gG) (cs := (sv (gfill (W8 (grp xs) (bgOf big)) 0)).toArray) (t := 34) (by rw [sz2])
  have q2 := below_new w2 (.cells (sv (gfill (W8 (grp xs) (bgOf big)) 0)).toArray 34)
  have M : Hid (Fm w (w2.alloc (.cells (sv (gfill (W8 (grp xs) (bgOf big)) 0)).toArray 34)) gA gG xs (gfill (W8 (grp xs) (bgOf big)) 0)) := ⟨ht, R0.keep q2, r2, Q0.trans (q2.mono Q0.size), by omega, by omega, by omega⟩
  obtain ⟨w3, hw3⟩ : ∃ w3, w2.alloc (.cells (sv (gfill (W8 (grp xs) (bgOf big)) 0)).toArray 34) = w3 := ⟨_, rfl⟩
  rw [hw3] at M
  have HW3 : Hid (w2.alloc (.cells #[.string ⟨#[]⟩, .string ⟨#[]⟩, .string ⟨#[]⟩, .string ⟨#[]⟩, .string ⟨#[]⟩, .string ⟨#[]⟩, .string ⟨#[]⟩, .string ⟨#[]⟩] 34) = w3) := hw3
  have HS2 : Hid (w2.heap.size = gG) := sz2
  have HT : Hid (tail = true ↔ z0 % 2 = 1) := by unfold Hid; rw [← htail, hd0]; simp; omega
  clear r2 q2 hw3 q0 r0 q1 r1 R0 Q0 sz1 sz2 hw2 hgA hgZ hgG hd0 hf hk9 hk0 hr hrk ht0 hx hbig hz h1 h2 ht
  go_enter Tryd.func6, Tryd.ntmps6
  go_upto_region 1 with fail
  rw [HW2.out, HA0.out, HZG.out.1]
  clear HW2 HZG
  go_wp2_with fail
  rw [HW3.out, HS2.out]
  clear HW3 HS2 c0 c1 c2 m0 m1 m2 n9 s9 s0 v1 v2
  have H8 : Hid ((W8 (grp xs) (bgOf big)).length = 8) := W8_len _ _
  have HWA : Hid (∀ i, i < 8 → (W8 (grp xs) (bgOf big)).getD i [] = dig4 (bgOf big i) ((grp xs).getD i 0)) := fun i h => W8_at _ _ h
  obtain ⟨l8, hl8⟩ : ∃ l, W8 (grp xs) (bgOf big) = l := ⟨_, rfl⟩
  have HL8 := veil hl8
  rw [hl8] at M H8 HWA
  clear hl8
  go_loopw [11] (fun i wr => ∃ j : Nat, j ≤ 8 ∧ i = .int .i64 j ∧ Hid (Fm w wr gA gG xs (gfill l8 j))) (fun i _ => 8 - (intOf i).toNat)
  case atStart => exact ⟨0, by omega, rfl, M.out⟩
  case round =>
    obtain ⟨j, hj, rfl, hM⟩ := hrel
    clear M
    by_cases hlt : j < 8
    · have hc : j = 0 ∨ j = 1 ∨ j = 2 ∨ j = 3 ∨ j = 4 ∨ j = 5 ∨ j = 6 ∨ j = 7 := by omega
      clear hlt
      rcases hc with rfl | rfl | rfl | rfl | rfl | rfl | rfl | rfl
      · have D := hM.out.drew
        have c0 : wr.drew.cell? ⟨gA, 0, none⟩ = some (.int .u8 (xs.getD 0 0)) := D.byte (by rw [HX.out.len]; omega)
        have c1 : wr.drew.cell? ⟨gA, 1, none⟩ = some (.int .u8 (xs.getD 1 0)) := D.byte (by rw [HX.out.len]; omega)
        have h0 := HX.out.at 0
        have h1 := HX.out.at 1
        obtain ⟨a, ha⟩ : ∃ a : Nat, xs.getD 0 0 = a := ⟨(xs.getD 0 0).toNat, by omega⟩
        obtain ⟨b, hbb⟩ : ∃ b : Nat, xs.getD 1 0 = b := ⟨(xs.getD 1 0).toNat, by omega⟩
        have hg : (grp xs).getD 0 0 = a * 256 + b := by rw [grp_at xs (by omega)]; show (xs.getD 0 0).toNat * 256 + (xs.getD 1 0).toNat = _; rw [ha, hbb]; rfl
        have ob : Hid (bits .or .u16 (IntKind.u16.wrap (IntKind.u16.wrap (a : Int) * 256)) (IntKind.u16.wrap (b : Int)) = ((a * 256 + b : Nat) : Int)) := by
          unfold Hid
          rw [show IntKind.u16.wrap (a : Int) = (a : Int) by rw [IntKind.wrap_u16]; omega, show IntKind.u16.wrap (b : Int) = (b : Int) by rw [IntKind.wrap_u16]; omega, show IntKind.u16.wrap ((a : Int) * 256) = (a : Int) * 256 by rw [IntKind.wrap_u16]; omega]
          exact or_u16 (a := a) (b := b) (by omega) (by omega)
        obtain ⟨n, hn⟩ : ∃ n, a * 256 + b = n := ⟨_, rfl⟩
        rw [hn] at ob
        have hn6 : n < 65536 := by omega
        obtain ⟨B, hB⟩ : ∃ B, bgOf big 0 = B := ⟨_, rfl⟩
        have hwj : l8.getD 0 [] = dig4 B n := by rw [HWA.out 0 (by omega), hg, hB, hn]
        obtain ⟨s, hs⟩ : ∃ s, dig4 B n = s := ⟨_, rfl⟩
        have K : Hid (∀ v, Calls Tryd.prog 14 #[.int .u16 n, .bool B] v fun e w' => e = .returned (.string (bs s)) ∧ v = w') := fun v => by
          have := lawDigits_any n B v hn6
          rwa [hs] at this
        obtain ⟨v, hv⟩ : ∃ v, big / 2 ^ 0 % 2 = v := ⟨_, rfl⟩
        have e1 : bits .and .u8 (big : Int) 1 = (v : Int) := by
          have := bit_one (n := big / 2 ^ 0) (Nat.lt_of_le_of_lt (Nat.div_le_self _ _) HB.out)
          rw [hv] at this
          rw [← this]
          congr 1
          all_goals omega
        have e2 : ((v : Int) == 1) = B := by
          rw [← hB]
          unfold bgOf
          rw [hv]
          apply Bool.eq_iff_iff.2
          rw [beq_iff_eq, decide_eq_true_iff]
          omega
        have P := D.put 0 s
        rw [← hs, ← hwj, gfill_set H8.out (by omega)] at P
        have cg : wr.drew.cell? ⟨gG, 0, none⟩ = some (.string (bs ((gfill l8 0).getD 0 []))) := D.word (by rw [gfill_len H8.out hj]; omega)
        have fg : wr.drew.frozen? ⟨gG, 0, none⟩ = false := D.froz 0
        generalize (gfill l8 0).getD 0 [] = z at cg
        rw [hwj, hs] at P
        have PP := veil P
        rw [ha] at c0
        rw [hbb] at c1
        have C1 : Hid (wr.drew.cell? ⟨gA, 0, none⟩ = some (.int .u8 a) ∧ wr.drew.cell? ⟨gA, 1, none⟩ = some (.int .u8 b)) := ⟨c0, c1⟩
        have C2 : Hid ((wr.drew.setCell ⟨gG, 0, none⟩ (.string (bs s))).cell? ⟨gA, 0, none⟩ = some (.int .u8 a) ∧ (wr.drew.setCell ⟨gG, 0, none⟩ (.string (bs s))).cell? ⟨gA, 1, none⟩ = some (.int .u8 b)) := by
          have h3 := P.byte (j := 0) (by rw [HX.out.len]; omega)
          have h4 := P.byte (j := 1) (by rw [HX.out.len]; omega)
          rw [ha] at h3
          rw [hbb] at h4
          exact ⟨h3, h4⟩
        have ha' : (a : Int) ≤ 255 := by omega
        have hb' : (b : Int) ≤ 255 := by omega
        have wK : IntKind.i64.wrap (0 : Int) = 0 := by decide
        have wM : IntKind.i64.wrap (1 : Int) = 1 := by decide
        clear P D hM h0 h1 ha hbb hg hn hn6 hB hwj hs hv HWA c0 c1
        go_wp2_with fail
        go_region_held3 (fun w' => w'.cell? ⟨gA, 0, none⟩ = some (.int .u8 a) ∧ w'.cell? ⟨gA, 1, none⟩ = some (.int .u8 b)) (first | exact C1.out | exact C2.out)
          (first
            | (rw [ob.out]
               go_at_call 14
               refine (K.out _).mono ?_
               rintro e w6 ⟨rfl, rfl⟩))
        go_wp2_with fail
        go_roundw
        case rel => exact ⟨1, by omega, by go_num, PP.out⟩
        case measure => decide
      · have D := hM.out.drew
        have c0 : wr.drew.cell? ⟨gA, 2, none⟩ = some (.int .u8 (xs.getD 2 0)) := D.byte (by rw [HX.out.len]; omega)
        have c1 : wr.drew.cell? ⟨gA, 3, none⟩ = some (.int .u8 (xs.getD 3 0)) := D.byte (by rw [HX.out.len]; omega)
        have h0 := HX.out.at 2
        have h1 := HX.out.at 3
        obtain ⟨a, ha⟩ : ∃ a : Nat, xs.getD 2 0 = a := ⟨(xs.getD 2 0).toNat, by omega⟩
        obtain ⟨b, hbb⟩ : ∃ b : Nat, xs.getD 3 0 = b := ⟨(xs.getD 3 0).toNat, by omega⟩
        have hg : (grp xs).getD 1 0 = a * 256 + b := by rw [grp_at xs (by omega)]; show (xs.getD 2 0).toNat * 256 + (xs.getD 3 0).toNat = _; rw [ha, hbb]; rfl
        have ob : Hid (bits .or .u16 (IntKind.u16.wrap (IntKind.u16.wrap (a : Int) * 256)) (IntKind.u16.wrap (b : Int)) = ((a * 256 + b : Nat) : Int)) := by
          unfold Hid
          rw [show IntKind.u16.wrap (a : Int) = (a : Int) by rw [IntKind.wrap_u16]; omega, show IntKind.u16.wrap (b : Int) = (b : Int) by rw [IntKind.wrap_u16]; omega, show IntKind.u16.wrap ((a : Int) * 256) = (a : Int) * 256 by rw [IntKind.wrap_u16]; omega]
          exact or_u16 (a := a) (b := b) (by omega) (by omega)
        obtain ⟨n, hn⟩ : ∃ n, a * 256 + b = n := ⟨_, rfl⟩
        rw [hn] at ob
        have hn6 : n < 65536 := by omega
        obtain ⟨B, hB⟩ : ∃ B, bgOf big 1 = B := ⟨_, rfl⟩
        have hwj : l8.getD 1 [] = dig4 B n := by rw [HWA.out 1 (by omega), hg, hB, hn]
        obtain ⟨s, hs⟩ : ∃ s, dig4 B n = s := ⟨_, rfl⟩
        have K : Hid (∀ v, Calls Tryd.prog 14 #[.int .u16 n, .bool B] v fun e w' => e = .returned (.string (bs s)) ∧ v = w') := fun v => by
          have := lawDigits_any n B v hn6
          rwa [hs] at this
        obtain ⟨v, hv⟩ : ∃ v, big / 2 ^ 1 % 2 = v := ⟨_, rfl⟩
        have e1 : bits .and .u8 ((big : Int) / 2) 1 = (v : Int) := by
          have := bit_one (n := big / 2 ^ 1) (Nat.lt_of_le_of_lt (Nat.div_le_self _ _) HB.out)
          rw [hv] at this
          rw [← this]
          congr 1
          all_goals omega
        have e2 : ((v : Int) == 1) = B := by
          rw [← hB]
          unfold bgOf
          rw [hv]
          apply Bool.eq_iff_iff.2
          rw [beq_iff_eq, decide_eq_true_iff]
          omega
        have P := D.put 1 s
        rw [← hs, ← hwj, gfill_set H8.out (by omega)] at P
        have cg : wr.drew.cell? ⟨gG, 1, none⟩ = some (.string (bs ((gfill l8 1).getD 1 []))) := D.word (by rw [gfill_len H8.out hj]; omega)
        have fg : wr.drew.frozen? ⟨gG, 1, none⟩ = false := D.froz 1
        generalize (gfill l8 1).getD 1 [] = z at cg
        rw [hwj, hs] at P
        have PP := veil P
        rw [ha] at c0
        rw [hbb] at c1
        have C1 : Hid (wr.drew.cell? ⟨gA, 2, none⟩ = some (.int .u8 a) ∧ wr.drew.cell? ⟨gA, 3, none⟩ = some (.int .u8 b)) := ⟨c0, c1⟩
        have C2 : Hid ((wr.drew.setCell ⟨gG, 1, none⟩ (.string (bs s))).cell? ⟨gA, 2, none⟩ = some (.int .u8 a) ∧ (wr.drew.setCell ⟨gG, 1, none⟩ (.string (bs s))).cell? ⟨gA, 3, none⟩ = some (.int .u8 b)) := by
          have h3 := P.byte (j := 2) (by rw [HX.out.len]; omega)
          have h4 := P.byte (j := 3) (by rw [HX.out.len]; omega)
          rw [ha] at h3
          rw [hbb] at h4
          exact ⟨h3, h4⟩
        have ha' : (a : Int) ≤ 255 := by omega
        have hb' : (b : Int) ≤ 255 := by omega
        have wK : IntKind.i64.wrap (2 : Int) = 2 := by decide
        have wM : IntKind.i64.wrap (3 : Int) = 3 := by decide
        clear P D hM h0 h1 ha hbb hg hn hn6 hB hwj hs hv HWA c0 c1
        go_wp2_with fail
        go_region_held3 (fun w' => w'.cell? ⟨gA, 2, none⟩ = some (.int .u8 a) ∧ w'.cell? ⟨gA, 3, none⟩ = some (.int .u8 b)) (first | exact C1.out | exact C2.out)
          (first
            | (rw [ob.out]
               go_at_call 14
               refine (K.out _).mono ?_
               rintro e w6 ⟨rfl, rfl⟩))
        go_wp2_with fail
        go_roundw
        case rel => exact ⟨2, by omega, by go_num, PP.out⟩
        case measure => decide
      · have D := hM.out.drew
        have c0 : wr.drew.cell? ⟨gA, 4, none⟩ = some (.int .u8 (xs.getD 4 0)) := D.byte (by rw [HX.out.len]; omega)
        have c1 : wr.drew.cell? ⟨gA, 5, none⟩ = some (.int .u8 (xs.getD 5 0)) := D.byte (by rw [HX.out.len]; omega)
        have h0 := HX.out.at 4
        have h1 := HX.out.at 5
        obtain ⟨a, ha⟩ : ∃ a : Nat, xs.getD 4 0 = a := ⟨(xs.getD 4 0).toNat, by omega⟩
        obtain ⟨b, hbb⟩ : ∃ b : Nat, xs.getD 5 0 = b := ⟨(xs.getD 5 0).toNat, by omega⟩
        have hg : (grp xs).getD 2 0 = a * 256 + b := by rw [grp_at xs (by omega)]; show (xs.getD 4 0).toNat * 256 + (xs.getD 5 0).toNat = _; rw [ha, hbb]; rfl
        have ob : Hid (bits .or .u16 (IntKind.u16.wrap (IntKind.u16.wrap (a : Int) * 256)) (IntKind.u16.wrap (b : Int)) = ((a * 256 + b : Nat) : Int)) := by
          unfold Hid
          rw [show IntKind.u16.wrap (a : Int) = (a : Int) by rw [IntKind.wrap_u16]; omega, show IntKind.u16.wrap (b : Int) = (b : Int) by rw [IntKind.wrap_u16]; omega, show IntKind.u16.wrap ((a : Int) * 256) = (a : Int) * 256 by rw [IntKind.wrap_u16]; omega]
          exact or_u16 (a := a) (b := b) (by omega) (by omega)
        obtain ⟨n, hn⟩ : ∃ n, a * 256 + b = n := ⟨_, rfl⟩
        rw [hn] at ob
        have hn6 : n < 65536 := by omega
        obtain ⟨B, hB⟩ : ∃ B, bgOf big 2 = B := ⟨_, rfl⟩
        have hwj : l8.getD 2 [] = dig4 B n := by rw [HWA.out 2 (by omega), hg, hB, hn]
        obtain ⟨s, hs⟩ : ∃ s, dig4 B n = s := ⟨_, rfl⟩
        have K : Hid (∀ v, Calls Tryd.prog 14 #[.int .u16 n, .bool B] v fun e w' => e = .returned (.string (bs s)) ∧ v = w') := fun v => by
          have := lawDigits_any n B v hn6
          rwa [hs] at this
        obtain ⟨v, hv⟩ : ∃ v, big / 2 ^ 2 % 2 = v := ⟨_, rfl⟩
        have e1 : bits .and .u8 ((big : Int) / 4) 1 = (v : Int) := by
          have := bit_one (n := big / 2 ^ 2) (Nat.lt_of_le_of_lt (Nat.div_le_self _ _) HB.out)
          rw [hv] at this
          rw [← this]
          congr 1
          all_goals omega
        have e2 : ((v : Int) == 1) = B := by
          rw [← hB]
          unfold bgOf
          rw [hv]
          apply Bool.eq_iff_iff.2
          rw [beq_iff_eq, decide_eq_true_iff]
          omega
        have P := D.put 2 s
        rw [← hs, ← hwj, gfill_set H8.out (by omega)] at P
        have cg : wr.drew.cell? ⟨gG, 2, none⟩ = some (.string (bs ((gfill l8 2).getD 2 []))) := D.word (by rw [gfill_len H8.out hj]; omega)
        have fg : wr.drew.frozen? ⟨gG, 2, none⟩ = false := D.froz 2
        generalize (gfill l8 2).getD 2 [] = z at cg
        rw [hwj, hs] at P
        have PP := veil P
        rw [ha] at c0
        rw [hbb] at c1
        have C1 : Hid (wr.drew.cell? ⟨gA, 4, none⟩ = some (.int .u8 a) ∧ wr.drew.cell? ⟨gA, 5, none⟩ = some (.int .u8 b)) := ⟨c0, c1⟩
        have C2 : Hid ((wr.drew.setCell ⟨gG, 2, none⟩ (.string (bs s))).cell? ⟨gA, 4, none⟩ = some (.int .u8 a) ∧ (wr.drew.setCell ⟨gG, 2, none⟩ (.string (bs s))).cell? ⟨gA, 5, none⟩ = some (.int .u8 b)) := by
          have h3 := P.byte (j := 4) (by rw [HX.out.len]; omega)
          have h4 := P.byte (j := 5) (by rw [HX.out.len]; omega)
          rw [ha] at h3
          rw [hbb] at h4
          exact ⟨h3, h4⟩
        have ha' : (a : Int) ≤ 255 := by omega
        have hb' : (b : Int) ≤ 255 := by omega
        have wK : IntKind.i64.wrap (4 : Int) = 4 := by decide
        have wM : IntKind.i64.wrap (5 : Int) = 5 := by decide
        clear P D hM h0 h1 ha hbb hg hn hn6 hB hwj hs hv HWA c0 c1
        go_wp2_with fail
        go_region_held3 (fun w' => w'.cell? ⟨gA, 4, none⟩ = some (.int .u8 a) ∧ w'.cell? ⟨gA, 5, none⟩ = some (.int .u8 b)) (first | exact C1.out | exact C2.out)
          (first
            | (rw [ob.out]
               go_at_call 14
               refine (K.out _).mono ?_
               rintro e w6 ⟨rfl, rfl⟩))
        go_wp2_with fail
        go_roundw
        case rel => exact ⟨3, by omega, by go_num, PP.out⟩
        case measure => decide
      · have D := hM.out.drew
        have c0 : wr.drew.cell? ⟨gA, 6, none⟩ = some (.int .u8 (xs.getD 6 0)) := D.byte (by rw [HX.out.len]; omega)
        have c1 : wr.drew.cell? ⟨gA, 7, none⟩ = some (.int .u8 (xs.getD 7 0)) := D.byte (by rw [HX.out.len]; omega)
        have h0 := HX.out.at 6
        have h1 := HX.out.at 7
        obtain ⟨a, ha⟩ : ∃ a : Nat, xs.getD 6 0 = a := ⟨(xs.getD 6 0).toNat, by omega⟩
        obtain ⟨b, hbb⟩ : ∃ b : Nat, xs.getD 7 0 = b := ⟨(xs.getD 7 0).toNat, by omega⟩
        have hg : (grp xs).getD 3 0 = a * 256 + b := by rw [grp_at xs (by omega)]; show (xs.getD 6 0).toNat * 256 + (xs.getD 7 0).toNat = _; rw [ha, hbb]; rfl
        have ob : Hid (bits .or .u16 (IntKind.u16.wrap (IntKind.u16.wrap (a : Int) * 256)) (IntKind.u16.wrap (b : Int)) = ((a * 256 + b : Nat) : Int)) := by
          unfold Hid
          rw [show IntKind.u16.wrap (a : Int) = (a : Int) by rw [IntKind.wrap_u16]; omega, show IntKind.u16.wrap (b : Int) = (b : Int) by rw [IntKind.wrap_u16]; omega, show IntKind.u16.wrap ((a : Int) * 256) = (a : Int) * 256 by rw [IntKind.wrap_u16]; omega]
          exact or_u16 (a := a) (b := b) (by omega) (by omega)
        obtain ⟨n, hn⟩ : ∃ n, a * 256 + b = n := ⟨_, rfl⟩
        rw [hn] at ob
        have hn6 : n < 65536 := by omega
        obtain ⟨B, hB⟩ : ∃ B, bgOf big 3 = B := ⟨_, rfl⟩
        have hwj : l8.getD 3 [] = dig4 B n := by rw [HWA.out 3 (by omega), hg, hB, hn]
        obtain ⟨s, hs⟩ : ∃ s, dig4 B n = s := ⟨_, rfl⟩
        have K : Hid (∀ v, Calls Tryd.prog 14 #[.int .u16 n, .bool B] v fun e w' => e = .returned (.string (bs s)) ∧ v = w') := fun v => by
          have := lawDigits_any n B v hn6
          rwa [hs] at this
        obtain ⟨v, hv⟩ : ∃ v, big / 2 ^ 3 % 2 = v := ⟨_, rfl⟩
        have e1 : bits .and .u8 ((big : Int) / 8) 1 = (v : Int) := by
          have := bit_one (n := big / 2 ^ 3) (Nat.lt_of_le_of_lt (Nat.div_le_self _ _) HB.out)
          rw [hv] at this
          rw [← this]
          congr 1
          all_goals omega
        have e2 : ((v : Int) == 1) = B := by
          rw [← hB]
          unfold bgOf
          rw [hv]
          apply Bool.eq_iff_iff.2
          rw [beq_iff_eq, decide_eq_true_iff]
          omega
        have P := D.put 3 s
        rw [← hs, ← hwj, gfill_set H8.out (by omega)] at P
        have cg : wr.drew.cell? ⟨gG, 3, none⟩ = some (.string (bs ((gfill l8 3).getD 3 []))) := D.word (by rw [gfill_len H8.out hj]; omega)
        have fg : wr.drew.frozen? ⟨gG, 3, none⟩ = false := D.froz 3
        generalize (gfill l8 3).getD 3 [] = z at cg
        rw [hwj, hs] at P
        have PP := veil P
        rw [ha] at c0
        rw [hbb] at c1
        have C1 : Hid (wr.drew.cell? ⟨gA, 6, none⟩ = some (.int .u8 a) ∧ wr.drew.cell? ⟨gA, 7, none⟩ = some (.int .u8 b)) := ⟨c0, c1⟩
        have C2 : Hid ((wr.drew.setCell ⟨gG, 3, none⟩ (.string (bs s))).cell? ⟨gA, 6, none⟩ = some (.int .u8 a) ∧ (wr.drew.setCell ⟨gG, 3, none⟩ (.string (bs s))).cell? ⟨gA, 7, none⟩ = some (.int .u8 b)) := by
          have h3 := P.byte (j := 6) (by rw [HX.out.len]; omega)
          have h4 := P.byte (j := 7) (by rw [HX.out.len]; omega)
          rw [ha] at h3
          rw [hbb] at h4
          exact ⟨h3, h4⟩
        have ha' : (a : Int) ≤ 255 := by omega
        have hb' : (b : Int) ≤ 255 := by omega
        have wK : IntKind.i64.wrap (6 : Int) = 6 := by decide
        have wM : IntKind.i64.wrap (7 : Int) = 7 := by decide
        clear P D hM h0 h1 ha hbb hg hn hn6 hB hwj hs hv HWA c0 c1
        go_wp2_with fail
        go_region_held3 (fun w' => w'.cell? ⟨gA, 6, none⟩ = some (.int .u8 a) ∧ w'.cell? ⟨gA, 7, none⟩ = some (.int .u8 b)) (first | exact C1.out | exact C2.out)
          (first
            | (rw [ob.out]
               go_at_call 14
               refine (K.out _).mono ?_
               rintro e w6 ⟨rfl, rfl⟩))
        go_wp2_with fail
        go_roundw
        case rel => exact ⟨4, by omega, by go_num, PP.out⟩
        case measure => decide
      · have D := hM.out.drew
        have c0 : wr.drew.cell? ⟨gA, 8, none⟩ = some (.int .u8 (xs.getD 8 0)) := D.byte (by rw [HX.out.len]; omega)
        have c1 : wr.drew.cell? ⟨gA, 9, none⟩ = some (.int .u8 (xs.getD 9 0)) := D.byte (by rw [HX.out.len]; omega)
        have h0 := HX.out.at 8
        have h1 := HX.out.at 9
        obtain ⟨a, ha⟩ : ∃ a : Nat, xs.getD 8 0 = a := ⟨(xs.getD 8 0).toNat, by omega⟩
        obtain ⟨b, hbb⟩ : ∃ b : Nat, xs.getD 9 0 = b := ⟨(xs.getD 9 0).toNat, by omega⟩
        have hg : (grp xs).getD 4 0 = a * 256 + b := by rw [grp_at xs (by omega)]; show (xs.getD 8 0).toNat * 256 + (xs.getD 9 0).toNat = _; rw [ha, hbb]; rfl
        have ob : Hid (bits .or .u16 (IntKind.u16.wrap (IntKind.u16.wrap (a : Int) * 256)) (IntKind.u16.wrap (b : Int)) = ((a * 256 + b : Nat) : Int)) := by
          unfold Hid
          rw [show IntKind.u16.wrap (a : Int) = (a : Int) by rw [IntKind.wrap_u16]; omega, show IntKind.u16.wrap (b : Int) = (b : Int) by rw [IntKind.wrap_u16]; omega, show IntKind.u16.wrap ((a : Int) * 256) = (a : Int) * 256 by rw [IntKind.wrap_u16]; omega]
          exact or_u16 (a := a) (b := b) (by omega) (by omega)
        obtain ⟨n, hn⟩ : ∃ n, a * 256 + b = n := ⟨_, rfl⟩
        rw [hn] at ob
        have hn6 : n < 65536 := by omega
        obtain ⟨B, hB⟩ : ∃ B, bgOf big 4 = B := ⟨_, rfl⟩
        have hwj : l8.getD 4 [] = dig4 B n := by rw [HWA.out 4 (by omega), hg, hB, hn]
        obtain ⟨s, hs⟩ : ∃ s, dig4 B n = s := ⟨_, rfl⟩
        have K : Hid (∀ v, Calls Tryd.prog 14 #[.int .u16 n, .bool B] v fun e w' => e = .returned (.string (bs s)) ∧ v = w') := fun v => by
          have := lawDigits_any n B v hn6
          rwa [hs] at this
        obtain ⟨v, hv⟩ : ∃ v, big / 2 ^ 4 % 2 = v := ⟨_, rfl⟩
        have e1 : bits .and .u8 ((big : Int) / 16) 1 = (v : Int) := by
          have := bit_one (n := big / 2 ^ 4) (Nat.lt_of_le_of_lt (Nat.div_le_self _ _) HB.out)
          rw [hv] at this
          rw [← this]
          congr 1
          all_goals omega
        have e2 : ((v : Int) == 1) = B := by
          rw [← hB]
          unfold bgOf
          rw [hv]
          apply Bool.eq_iff_iff.2
          rw [beq_iff_eq, decide_eq_true_iff]
          omega
        have P := D.put 4 s
        rw [← hs, ← hwj, gfill_set H8.out (by omega)] at P
        have cg : wr.drew.cell? ⟨gG, 4, none⟩ = some (.string (bs ((gfill l8 4).getD 4 []))) := D.word (by rw [gfill_len H8.out hj]; omega)
        have fg : wr.drew.frozen? ⟨gG, 4, none⟩ = false := D.froz 4
        generalize (gfill l8 4).getD 4 [] = z at cg
        rw [hwj, hs] at P
        have PP := veil P
        rw [ha] at c0
        rw [hbb] at c1
        have C1 : Hid (wr.drew.cell? ⟨gA, 8, none⟩ = some (.int .u8 a) ∧ wr.drew.cell? ⟨gA, 9, none⟩ = some (.int .u8 b)) := ⟨c0, c1⟩
        have C2 : Hid ((wr.drew.setCell ⟨gG, 4, none⟩ (.string (bs s))).cell? ⟨gA, 8, none⟩ = some (.int .u8 a) ∧ (wr.drew.setCell ⟨gG, 4, none⟩ (.string (bs s))).cell? ⟨gA, 9, none⟩ = some (.int .u8 b)) := by
          have h3 := P.byte (j := 8) (by rw [HX.out.len]; omega)
          have h4 := P.byte (j := 9) (by rw [HX.out.len]; omega)
          rw [ha] at h3
          rw [hbb] at h4
          exact ⟨h3, h4⟩
        have ha' : (a : Int) ≤ 255 := by omega
        have hb' : (b : Int) ≤ 255 := by omega
        have wK : IntKind.i64.wrap (8 : Int) = 8 := by decide
        have wM : IntKind.i64.wrap (9 : Int) = 9 := by decide
        clear P D hM h0 h1 ha hbb hg hn hn6 hB hwj hs hv HWA c0 c1
        go_wp2_with fail
        go_region_held3 (fun w' => w'.cell? ⟨gA, 8, none⟩ = some (.int .u8 a) ∧ w'.cell? ⟨gA, 9, none⟩ = some (.int .u8 b)) (first | exact C1.out | exact C2.out)
          (first
            | (rw [ob.out]
               go_at_call 14
               refine (K.out _).mono ?_
               rintro e w6 ⟨rfl, rfl⟩))
        go_wp2_with fail
        go_roundw
        case rel => exact ⟨5, by omega, by go_num, PP.out⟩
        case measure => decide
      · have D := hM.out.drew
        have c0 : wr.drew.cell? ⟨gA, 10, none⟩ = some (.int .u8 (xs.getD 10 0)) := D.byte (by rw [HX.out.len]; omega)
        have c1 : wr.drew.cell? ⟨gA, 11, none⟩ = some (.int .u8 (xs.getD 11 0)) := D.byte (by rw [HX.out.len]; omega)
        have h0 := HX.out.at 10
        have h1 := HX.out.at 11
        obtain ⟨a, ha⟩ : ∃ a : Nat, xs.getD 10 0 = a := ⟨(xs.getD 10 0).toNat, by omega⟩
        obtain ⟨b, hbb⟩ : ∃ b : Nat, xs.getD 11 0 = b := ⟨(xs.getD 11 0).toNat, by omega⟩
        have hg : (grp xs).getD 5 0 = a * 256 + b := by rw [grp_at xs (by omega)]; show (xs.getD 10 0).toNat * 256 + (xs.getD 11 0).toNat = _; rw [ha, hbb]; rfl
        have ob : Hid (bits .or .u16 (IntKind.u16.wrap (IntKind.u16.wrap (a : Int) * 256)) (IntKind.u16.wrap (b : Int)) = ((a * 256 + b : Nat) : Int)) := by
          unfold Hid
          rw [show IntKind.u16.wrap (a : Int) = (a : Int) by rw [IntKind.wrap_u16]; omega, show IntKind.u16.wrap (b : Int) = (b : Int) by rw [IntKind.wrap_u16]; omega, show IntKind.u16.wrap ((a : Int) * 256) = (a : Int) * 256 by rw [IntKind.wrap_u16]; omega]
          exact or_u16 (a := a) (b := b) (by omega) (by omega)
        obtain ⟨n, hn⟩ : ∃ n, a * 256 + b = n := ⟨_, rfl⟩
        rw [hn] at ob
        have hn6 : n < 65536 := by omega
        obtain ⟨B, hB⟩ : ∃ B, bgOf big 5 = B := ⟨_, rfl⟩
        have hwj : l8.getD 5 [] = dig4 B n := by rw [HWA.out 5 (by omega), hg, hB, hn]
        obtain ⟨s, hs⟩ : ∃ s, dig4 B n = s := ⟨_, rfl⟩
        have K : Hid (∀ v, Calls Tryd.prog 14 #[.int .u16 n, .bool B] v fun e w' => e = .returned (.string (bs s)) ∧ v = w') := fun v => by
          have := lawDigits_any n B v hn6
          rwa [hs] at this
        obtain ⟨v, hv⟩ : ∃ v, big / 2 ^ 5 % 2 = v := ⟨_, rfl⟩
        have e1 : bits .and .u8 ((big : Int) / 32) 1 = (v : Int) := by
          have := bit_one (n := big / 2 ^ 5) (Nat.lt_of_le_of_lt (Nat.div_le_self _ _) HB.out)
          rw [hv] at this
          rw [← this]
          congr 1
          all_goals omega
        have e2 : ((v : Int) == 1) = B := by
          rw [← hB]
          unfold bgOf
          rw [hv]
          apply Bool.eq_iff_iff.2
          rw [beq_iff_eq, decide_eq_true_iff]
          omega
        have P := D.put 5 s
        rw [← hs, ← hwj, gfill_set H8.out (by omega)] at P
        have cg : wr.drew.cell? ⟨gG, 5, none⟩ = some (.string (bs ((gfill l8 5).getD 5 []))) := D.word (by rw [gfill_len H8.out hj]; omega)
        have fg : wr.drew.frozen? ⟨gG, 5, none⟩ = false := D.froz 5
        generalize (gfill l8 5).getD 5 [] = z at cg
        rw [hwj, hs] at P
        have PP := veil P
        rw [ha] at c0
        rw [hbb] at c1
        have C1 : Hid (wr.drew.cell? ⟨gA, 10, none⟩ = some (.int .u8 a) ∧ wr.drew.cell? ⟨gA, 11, none⟩ = some (.int .u8 b)) := ⟨c0, c1⟩
        have C2 : Hid ((wr.drew.setCell ⟨gG, 5, none⟩ (.string (bs s))).cell? ⟨gA, 10, none⟩ = some (.int .u8 a) ∧ (wr.drew.setCell ⟨gG, 5, none⟩ (.string (bs s))).cell? ⟨gA, 11, none⟩ = some (.int .u8 b)) := by
          have h3 := P.byte (j := 10) (by rw [HX.out.len]; omega)
          have h4 := P.byte (j := 11) (by rw [HX.out.len]; omega)
          rw [ha] at h3
          rw [hbb] at h4
          exact ⟨h3, h4⟩
        have ha' : (a : Int) ≤ 255 := by omega
        have hb' : (b : Int) ≤ 255 := by omega
        have wK : IntKind.i64.wrap (10 : Int) = 10 := by decide
        have wM : IntKind.i64.wrap (11 : Int) = 11 := by decide
        clear P D hM h0 h1 ha hbb hg hn hn6 hB hwj hs hv HWA c0 c1
        go_wp2_with fail
        go_region_held3 (fun w' => w'.cell? ⟨gA, 10, none⟩ = some (.int .u8 a) ∧ w'.cell? ⟨gA, 11, none⟩ = some (.int .u8 b)) (first | exact C1.out | exact C2.out)
          (first
            | (rw [ob.out]
               go_at_call 14
               refine (K.out _).mono ?_
               rintro e w6 ⟨rfl, rfl⟩))
        go_wp2_with fail
        go_roundw
        case rel => exact ⟨6, by omega, by go_num, PP.out⟩
        case measure => decide
      · have D := hM.out.drew
        have c0 : wr.drew.cell? ⟨gA, 12, none⟩ = some (.int .u8 (xs.getD 12 0)) := D.byte (by rw [HX.out.len]; omega)
        have c1 : wr.drew.cell? ⟨gA, 13, none⟩ = some (.int .u8 (xs.getD 13 0)) := D.byte (by rw [HX.out.len]; omega)
        have h0 := HX.out.at 12
        have h1 := HX.out.at 13
        obtain ⟨a, ha⟩ : ∃ a : Nat, xs.getD 12 0 = a := ⟨(xs.getD 12 0).toNat, by omega⟩
        obtain ⟨b, hbb⟩ : ∃ b : Nat, xs.getD 13 0 = b := ⟨(xs.getD 13 0).toNat, by omega⟩
        have hg : (grp xs).getD 6 0 = a * 256 + b := by rw [grp_at xs (by omega)]; show (xs.getD 12 0).toNat * 256 + (xs.getD 13 0).toNat = _; rw [ha, hbb]; rfl
        have ob : Hid (bits .or .u16 (IntKind.u16.wrap (IntKind.u16.wrap (a : Int) * 256)) (IntKind.u16.wrap (b : Int)) = ((a * 256 + b : Nat) : Int)) := by
          unfold Hid
          rw [show IntKind.u16.wrap (a : Int) = (a : Int) by rw [IntKind.wrap_u16]; omega, show IntKind.u16.wrap (b : Int) = (b : Int) by rw [IntKind.wrap_u16]; omega, show IntKind.u16.wrap ((a : Int) * 256) = (a : Int) * 256 by rw [IntKind.wrap_u16]; omega]
          exact or_u16 (a := a) (b := b) (by omega) (by omega)
        obtain ⟨n, hn⟩ : ∃ n, a * 256 + b = n := ⟨_, rfl⟩
        rw [hn] at ob
        have hn6 : n < 65536 := by omega
        obtain ⟨B, hB⟩ : ∃ B, bgOf big 6 = B := ⟨_, rfl⟩
        have hwj : l8.getD 6 [] = dig4 B n := by rw [HWA.out 6 (by omega), hg, hB, hn]
        obtain ⟨s, hs⟩ : ∃ s, dig4 B n = s := ⟨_, rfl⟩
        have K : Hid (∀ v, Calls Tryd.prog 14 #[.int .u16 n, .bool B] v fun e w' => e = .returned (.string (bs s)) ∧ v = w') := fun v => by
          have := lawDigits_any n B v hn6
          rwa [hs] at this
        obtain ⟨v, hv⟩ : ∃ v, big / 2 ^ 6 % 2 = v := ⟨_, rfl⟩
        have e1 : bits .and .u8 ((big : Int) / 64) 1 = (v : Int) := by
          have := bit_one (n := big / 2 ^ 6) (Nat.lt_of_le_of_lt (Nat.div_le_self _ _) HB.out)
          rw [hv] at this
          rw [← this]
          congr 1
          all_goals omega
        have e2 : ((v : Int) == 1) = B := by
          rw [← hB]
          unfold bgOf
          rw [hv]
          apply Bool.eq_iff_iff.2
          rw [beq_iff_eq, decide_eq_true_iff]
          omega
        have P := D.put 6 s
        rw [← hs, ← hwj, gfill_set H8.out (by omega)] at P
        have cg : wr.drew.cell? ⟨gG, 6, none⟩ = some (.string (bs ((gfill l8 6).getD 6 []))) := D.word (by rw [gfill_len H8.out hj]; omega)
        have fg : wr.drew.frozen? ⟨gG, 6, none⟩ = false := D.froz 6
        generalize (gfill l8 6).getD 6 [] = z at cg
        rw [hwj, hs] at P
        have PP := veil P
        rw [ha] at c0
        rw [hbb] at c1
        have C1 : Hid (wr.drew.cell? ⟨gA, 12, none⟩ = some (.int .u8 a) ∧ wr.drew.cell? ⟨gA, 13, none⟩ = some (.int .u8 b)) := ⟨c0, c1⟩
        have C2 : Hid ((wr.drew.setCell ⟨gG, 6, none⟩ (.string (bs s))).cell? ⟨gA, 12, none⟩ = some (.int .u8 a) ∧ (wr.drew.setCell ⟨gG, 6, none⟩ (.string (bs s))).cell? ⟨gA, 13, none⟩ = some (.int .u8 b)) := by
          have h3 := P.byte (j := 12) (by rw [HX.out.len]; omega)
          have h4 := P.byte (j := 13) (by rw [HX.out.len]; omega)
          rw [ha] at h3
          rw [hbb] at h4
          exact ⟨h3, h4⟩
        have ha' : (a : Int) ≤ 255 := by omega
        have hb' : (b : Int) ≤ 255 := by omega
        have wK : IntKind.i64.wrap (12 : Int) = 12 := by decide
        have wM : IntKind.i64.wrap (13 : Int) = 13 := by decide
        clear P D hM h0 h1 ha hbb hg hn hn6 hB hwj hs hv HWA c0 c1
        go_wp2_with fail
        go_region_held3 (fun w' => w'.cell? ⟨gA, 12, none⟩ = some (.int .u8 a) ∧ w'.cell? ⟨gA, 13, none⟩ = some (.int .u8 b)) (first | exact C1.out | exact C2.out)
          (first
            | (rw [ob.out]
               go_at_call 14
               refine (K.out _).mono ?_
               rintro e w6 ⟨rfl, rfl⟩))
        go_wp2_with fail
        go_roundw
        case rel => exact ⟨7, by omega, by go_num, PP.out⟩
        case measure => decide
      · have D := hM.out.drew
        have c0 : wr.drew.cell? ⟨gA, 14, none⟩ = some (.int .u8 (xs.getD 14 0)) := D.byte (by rw [HX.out.len]; omega)
        have c1 : wr.drew.cell? ⟨gA, 15, none⟩ = some (.int .u8 (xs.getD 15 0)) := D.byte (by rw [HX.out.len]; omega)
        have h0 := HX.out.at 14
        have h1 := HX.out.at 15
        obtain ⟨a, ha⟩ : ∃ a : Nat, xs.getD 14 0 = a := ⟨(xs.getD 14 0).toNat, by omega⟩
        obtain ⟨b, hbb⟩ : ∃ b : Nat, xs.getD 15 0 = b := ⟨(xs.getD 15 0).toNat, by omega⟩
        have hg : (grp xs).getD 7 0 = a * 256 + b := by rw [grp_at xs (by omega)]; show (xs.getD 14 0).toNat * 256 + (xs.getD 15 0).toNat = _; rw [ha, hbb]; rfl
        have ob : Hid (bits .or .u16 (IntKind.u16.wrap (IntKind.u16.wrap (a : Int) * 256)) (IntKind.u16.wrap (b : Int)) = ((a * 256 + b : Nat) : Int)) := by
          unfold Hid
          rw [show IntKind.u16.wrap (a : Int) = (a : Int) by rw [IntKind.wrap_u16]; omega, show IntKind.u16.wrap (b : Int) = (b : Int) by rw [IntKind.wrap_u16]; omega, show IntKind.u16.wrap ((a : Int) * 256) = (a : Int) * 256 by rw [IntKind.wrap_u16]; omega]
          exact or_u16 (a := a) (b := b) (by omega) (by omega)
        obtain ⟨n, hn⟩ : ∃ n, a * 256 + b = n := ⟨_, rfl⟩
        rw [hn] at ob
        have hn6 : n < 65536 := by omega
        obtain ⟨B, hB⟩ : ∃ B, bgOf big 7 = B := ⟨_, rfl⟩
        have hwj : l8.getD 7 [] = dig4 B n := by rw [HWA.out 7 (by omega), hg, hB, hn]
        obtain ⟨s, hs⟩ : ∃ s, dig4 B n = s := ⟨_, rfl⟩
        have K : Hid (∀ v, Calls Tryd.prog 14 #[.int .u16 n, .bool B] v fun e w' => e = .returned (.string (bs s)) ∧ v = w') := fun v => by
          have := lawDigits_any n B v hn6
          rwa [hs] at this
        obtain ⟨v, hv⟩ : ∃ v, big / 2 ^ 7 % 2 = v := ⟨_, rfl⟩
        have e1 : bits .and .u8 ((big : Int) / 128) 1 = (v : Int) := by
          have := bit_one (n := big / 2 ^ 7) (Nat.lt_of_le_of_lt (Nat.div_le_self _ _) HB.out)
          rw [hv] at this
          rw [← this]
          congr 1
          all_goals omega
        have e2 : ((v : Int) == 1) = B := by
          rw [← hB]
          unfold bgOf
          rw [hv]
          apply Bool.eq_iff_iff.2
          rw [beq_iff_eq, decide_eq_true_iff]
          omega
        have P := D.put 7 s
        rw [← hs, ← hwj, gfill_set H8.out (by omega)] at P
        have cg : wr.drew.cell? ⟨gG, 7, none⟩ = some (.string (bs ((gfill l8 7).getD 7 []))) := D.word (by rw [gfill_len H8.out hj]; omega)
        have fg : wr.drew.frozen? ⟨gG, 7, none⟩ = false := D.froz 7
        generalize (gfill l8 7).getD 7 [] = z at cg
        rw [hwj, hs] at P
        have PP := veil P
        rw [ha] at c0
        rw [hbb] at c1
        have C1 : Hid (wr.drew.cell? ⟨gA, 14, none⟩ = some (.int .u8 a) ∧ wr.drew.cell? ⟨gA, 15, none⟩ = some (.int .u8 b)) := ⟨c0, c1⟩
        have C2 : Hid ((wr.drew.setCell ⟨gG, 7, none⟩ (.string (bs s))).cell? ⟨gA, 14, none⟩ = some (.int .u8 a) ∧ (wr.drew.setCell ⟨gG, 7, none⟩ (.string (bs s))).cell? ⟨gA, 15, none⟩ = some (.int .u8 b)) := by
          have h3 := P.byte (j := 14) (by rw [HX.out.len]; omega)
          have h4 := P.byte (j := 15) (by rw [HX.out.len]; omega)
          rw [ha] at h3
          rw [hbb] at h4
          exact ⟨h3, h4⟩
        have ha' : (a : Int) ≤ 255 := by omega
        have hb' : (b : Int) ≤ 255 := by omega
        have wK : IntKind.i64.wrap (14 : Int) = 14 := by decide
        have wM : IntKind.i64.wrap (15 : Int) = 15 := by decide
        clear P D hM h0 h1 ha hbb hg hn hn6 hB hwj hs hv HWA c0 c1
        go_wp2_with fail
        go_region_held3 (fun w' => w'.cell? ⟨gA, 14, none⟩ = some (.int .u8 a) ∧ w'.cell? ⟨gA, 15, none⟩ = some (.int .u8 b)) (first | exact C1.out | exact C2.out)
          (first
            | (rw [ob.out]
               go_at_call 14
               refine (K.out _).mono ?_
               rintro e w6 ⟨rfl, rfl⟩))
        go_wp2_with fail
        go_roundw
        case rel => exact ⟨8, by omega, by go_num, PP.out⟩
        case measure => decide
    · obtain rfl : j = 8 := by omega
      obtain ⟨bt, hbt⟩ : ∃ bt : Nat → Nat, bt = fun i => (xs.getD i 0).toNat := ⟨_, rfl⟩
      have hbl : ∀ i, bt i < 256 ∧ xs.getD i 0 = (bt i : Int) := fun i => by
        have := HX.out.at i
        rw [hbt]
        constructor
        · show (xs.getD i 0).toNat < 256
          omega
        · show xs.getD i 0 = ((xs.getD i 0).toNat : Int)
          omega
      obtain ⟨fw, hfw⟩ : ∃ fw, four4 (bt 12) (bt 13) (bt 14) (bt 15) = fw := ⟨_, rfl⟩
      obtain ⟨ss, hss⟩ : ∃ ss, (if tail then l8.set 6 fw else l8) = ss := ⟨_, rfl⟩
      obtain ⟨many, hmany⟩ : ∃ m, manyOf tail = m := ⟨_, rfl⟩
      have M := veil hM.out
      rw [gfill_end H8.out] at M
      have HSS := veil hss
      have HMY := veil hmany
      have HFW := veil hfw
      have HBL := veil hbl
      clear hM hlt hss hmany hfw hbl hbt hj
      go_upto_if 59 with fail
      go_cut [12] from 60 to 78 (fun m wx => m = .int .i64 many ∧ Hid (Fm w wx gA gG xs ss))
      case first =>
        cases htl : tail with
        | false =>
          subst htl
          have e1 : many = 8 := HMY.out.symm
          have e2 : ss = l8 := HSS.out.symm
          rw [← e2] at M
          subst e1
          clear e2
          go_wp2_with fail
          go_meet
          exact ⟨rfl, M.out⟩
        | true =>
          subst htl
          have e1 : many = 7 := HMY.out.symm
          have e2 : ss = l8.set 6 fw := HSS.out.symm
          have D := M.out.drew
          have c0 : wr.drew.cell? ⟨gA, 12, none⟩ = some (.int .u8 (bt 12)) := by rw [← (HBL.out 12).2]; exact D.byte (by rw [HX.out.len]; omega)
          have c1 : wr.drew.cell? ⟨gA, 13, none⟩ = some (.int .u8 (bt 13)) := by rw [← (HBL.out 13).2]; exact D.byte (by rw [HX.out.len]; omega)
          have c2 : wr.drew.cell? ⟨gA, 14, none⟩ = some (.int .u8 (bt 14)) := by rw [← (HBL.out 14).2]; exact D.byte (by rw [HX.out.len]; omega)
          have c3 : wr.drew.cell? ⟨gA, 15, none⟩ = some (.int .u8 (bt 15)) := by rw [← (HBL.out 15).2]; exact D.byte (by rw [HX.out.len]; omega)
          have P := D.put 6 fw
          rw [← e2] at P
          have C2 : Hid ((wr.drew.setCell ⟨gG, 6, none⟩ (.string (bs fw))).cell? ⟨gA, 12, none⟩ = some (.int .u8 (bt 12)) ∧ (wr.drew.setCell ⟨gG, 6, none⟩ (.string (bs fw))).cell? ⟨gA, 13, none⟩ = some (.int .u8 (bt 13)) ∧ (wr.drew.setCell ⟨gG, 6, none⟩ (.string (bs fw))).cell? ⟨gA, 14, none⟩ = some (.int .u8 (bt 14)) ∧ (wr.drew.setCell ⟨gG, 6, none⟩ (.string (bs fw))).cell? ⟨gA, 15, none⟩ = some (.int .u8 (bt 15))) := by
            refine ⟨?_, ?_, ?_, ?_⟩
            · rw [← (HBL.out 12).2]; exact P.byte (by rw [HX.out.len]; omega)
            · rw [← (HBL.out 13).2]; exact P.byte (by rw [HX.out.len]; omega)
            · rw [← (HBL.out 14).2]; exact P.byte (by rw [HX.out.len]; omega)
            · rw [← (HBL.out 15).2]; exact P.byte (by rw [HX.out.len]; omega)
          have C1 : Hid (wr.drew.cell? ⟨gA, 12, none⟩ = some (.int .u8 (bt 12)) ∧ wr.drew.cell? ⟨gA, 13, none⟩ = some (.int .u8 (bt 13)) ∧ wr.drew.cell? ⟨gA, 14, none⟩ = some (.int .u8 (bt 14)) ∧ wr.drew.cell? ⟨gA, 15, none⟩ = some (.int .u8 (bt 15))) := ⟨c0, c1, c2, c3⟩
          have cg : wr.drew.cell? ⟨gG, 6, none⟩ = some (.string (bs (l8.getD 6 []))) := D.word (by rw [H8.out]; omega)
          have fg : wr.drew.frozen? ⟨gG, 6, none⟩ = false := D.froz 6
          generalize l8.getD 6 [] = z at cg
          have PP := veil P
          have K12 : Hid (∀ v, Calls Tryd.prog 15 #[.int .u8 (bt 12)] v fun e w' => e = .returned (.string (bs (dec3 (bt 12)))) ∧ v = w') := fun v => lawDecimal_any (bt 12) v (HBL.out 12).1
          have K13 : Hid (∀ v, Calls Tryd.prog 15 #[.int .u8 (bt 13)] v fun e w' => e = .returned (.string (bs (dec3 (bt 13)))) ∧ v = w') := fun v => lawDecimal_any (bt 13) v (HBL.out 13).1
          have K14 : Hid (∀ v, Calls Tryd.prog 15 #[.int .u8 (bt 14)] v fun e w' => e = .returned (.string (bs (dec3 (bt 14)))) ∧ v = w') := fun v => lawDecimal_any (bt 14) v (HBL.out 14).1
          have K15 : Hid (∀ v, Calls Tryd.prog 15 #[.int .u8 (bt 15)] v fun e w' => e = .returned (.string (bs (dec3 (bt 15)))) ∧ v = w') := fun v => lawDecimal_any (bt 15) v (HBL.out 15).1
          have L12 := dec3_len (bt 12)
          have L13 := dec3_len (bt 13)
          have L14 := dec3_len (bt 14)
          have L15 := dec3_len (bt 15)
          have hfw := HFW.out
          unfold four4 at hfw
          generalize dec3 (bt 12) = p12 at *
          generalize dec3 (bt 13) = p13 at *
          generalize dec3 (bt 14) = p14 at *
          generalize dec3 (bt 15) = p15 at *
          generalize bt 12 = b12 at *
          generalize bt 13 = b13 at *
          generalize bt 14 = b14 at *
          generalize bt 15 = b15 at *
          obtain ⟨q1, h1⟩ : ∃ q, p12 ++ [46] = q := ⟨_, rfl⟩
          have l1 : q1.length ≤ 4 := by rw [← h1]; simp; omega
          rw [h1] at hfw
          obtain ⟨q2, h2⟩ : ∃ q, q1 ++ p13 = q := ⟨_, rfl⟩
          have l2 : q2.length ≤ 7 := by rw [← h2]; simp; omega
          rw [h2] at hfw
          obtain ⟨q3, h3⟩ : ∃ q, q2 ++ [46] = q := ⟨_, rfl⟩
          have l3 : q3.length ≤ 8 := by rw [← h3]; simp; omega
          rw [h3] at hfw
          obtain ⟨q4, h4⟩ : ∃ q, q3 ++ p14 = q := ⟨_, rfl⟩
          have l4 : q4.length ≤ 11 := by rw [← h4]; simp; omega
          rw [h4] at hfw
          obtain ⟨q5, h5⟩ : ∃ q, q4 ++ [46] = q := ⟨_, rfl⟩
          have l5 : q5.length ≤ 12 := by rw [← h5]; simp; omega
          rw [h5] at hfw
          have Z : Hid (Fits p12 [46] ∧ Fits q1 p13 ∧ Fits q2 [46] ∧ Fits q3 p14 ∧ Fits q4 [46] ∧ Fits q5 p15) := by
            unfold Hid Fits
            simp only [List.length_cons, List.length_nil]
            refine ⟨by omega, by omega, by omega, by omega, by omega, by omega⟩
          have HQ := veil (And.intro h1 (And.intro h2 (And.intro h3 (And.intro h4 (And.intro h5 hfw)))))
          subst e1
          clear e2 P D h1 h2 h3 h4 h5 hfw l1 l2 l3 l4 l5 L12 L13 L14 L15 c0 c1 c2 c3 HFW M HBL
          go_wp2_with fail
          refine wp_region_noPanic ?_
          refine wp_region_held_drew (S := (fun w' => w'.cell? ⟨gA, 12, none⟩ = some (.int .u8 b12) ∧ w'.cell? ⟨gA, 13, none⟩ = some (.int .u8 b13) ∧ w'.cell? ⟨gA, 14, none⟩ = some (.int .u8 b14) ∧ w'.cell? ⟨gA, 15, none⟩ = some (.int .u8 b15))) (by kernel_rfl) C1.out (fun hHeld => ?_)
          refine wpAnyH_take (i := 0) (v := ?_) (by rfl) (by kernel_rfl) (by kernel_rfl) (by kernel_rfl) (fun _ _ _ h => h) (Or.inl ⟨by rfl, ?_⟩) hHeld ?_
          rotate_left
          · intro w' hSw
            (try dsimp only at hSw)
            simp only [List.getElem_toArray, List.getElem_cons_zero, List.getElem_cons_succ]
            go_simp
            all_goals (try with_reducible rfl)
          try simp only [Act.put, List.setIfInBounds_toArray, List.set_cons_zero, List.set_cons_succ, List.getElem_toArray, List.getElem_cons_zero, List.getElem_cons_succ]
          refine wpAnyH_take (i := 1) (v := ?_) (by rfl) (by kernel_rfl) (by kernel_rfl) (by kernel_rfl) (fun _ _ _ h => h) (Or.inl ⟨by rfl, ?_⟩) hHeld ?_
          rotate_left
          · intro w' hSw
            (try dsimp only at hSw)
            simp only [List.getElem_toArray, List.getElem_cons_zero, List.getElem_cons_succ]
            go_simp
            all_goals (try with_reducible rfl)
          try simp only [Act.put, List.setIfInBounds_toArray, List.set_cons_zero, List.set_cons_succ, List.getElem_toArray, List.getElem_cons_zero, List.getElem_cons_succ]
          refine wpAnyH_take (i := 4) (v := ?_) (by rfl) (by kernel_rfl) (by kernel_rfl) (by kernel_rfl) (fun _ _ _ h => h) (Or.inl ⟨by rfl, ?_⟩) hHeld ?_
          rotate_left
          · intro w' hSw
            (try dsimp only at hSw)
            simp only [List.getElem_toArray, List.getElem_cons_zero, List.getElem_cons_succ]
            go_simp
            all_goals (try with_reducible rfl)
          try simp only [Act.put, List.setIfInBounds_toArray, List.set_cons_zero, List.set_cons_succ, List.getElem_toArray, List.getElem_cons_zero, List.getElem_cons_succ]
          refine wpAnyH_take (i := 5) (v := ?_) (by rfl) (by kernel_rfl) (by kernel_rfl) (by kernel_rfl) (fun _ _ _ h => h) (Or.inl ⟨by rfl, ?_⟩) hHeld ?_
          rotate_left
          · intro w' hSw
            (try dsimp only at hSw)
            simp only [List.getElem_toArray, List.getElem_cons_zero, List.getElem_cons_succ]
            go_simp
            all_goals (try with_reducible rfl)
          try simp only [Act.put, List.setIfInBounds_toArray, List.set_cons_zero, List.set_cons_succ, List.getElem_toArray, List.getElem_cons_zero, List.getElem_cons_succ]
          refine wpAnyH_take (i := 9) (v := ?_) (by rfl) (by kernel_rfl) (by kernel_rfl) (by kernel_rfl) (fun _ _ _ h => h) (Or.inl ⟨by rfl, ?_⟩) hHeld ?_
          rotate_left
          · intro w' hSw
            (try dsimp only at hSw)
            simp only [List.getElem_toArray, List.getElem_cons_zero, List.getElem_cons_succ]
            go_simp
            all_goals (try with_reducible rfl)
          try simp only [Act.put, List.setIfInBounds_toArray, List.set_cons_zero, List.set_cons_succ, List.getElem_toArray, List.getElem_cons_zero, List.getElem_cons_succ]
          refine wpAnyH_take (i := 10) (v := ?_) (by rfl) (by kernel_rfl) (by kernel_rfl) (by kernel_rfl) (fun _ _ _ h => h) (Or.inl ⟨by rfl, ?_⟩) hHeld ?_
          rotate_left
          · intro w' hSw
            (try dsimp only at hSw)
            simp only [List.getElem_toArray, List.getElem_cons_zero, List.getElem_cons_succ]
            go_simp
            all_goals (try with_reducible rfl)
          try simp only [Act.put, List.setIfInBounds_toArray, List.set_cons_zero, List.set_cons_succ, List.getElem_toArray, List.getElem_cons_zero, List.getElem_cons_succ]
          refine wpAnyH_take (i := 14) (v := ?_) (by rfl) (by kernel_rfl) (by kernel_rfl) (by kernel_rfl) (fun _ _ _ h => h) (Or.inl ⟨by rfl, ?_⟩) hHeld ?_
          rotate_left
          · intro w' hSw
            (try dsimp only at hSw)
            simp only [List.getElem_toArray, List.getElem_cons_zero, List.getElem_cons_succ]
            go_simp
            all_goals (try with_reducible rfl)
          try simp only [Act.put, List.setIfInBounds_toArray, List.set_cons_zero, List.set_cons_succ, List.getElem_toArray, List.getElem_cons_zero, List.getElem_cons_succ]
          refine wpAnyH_take (i := 15) (v := ?_) (by rfl) (by kernel_rfl) (by kernel_rfl) (by kernel_rfl) (fun _ _ _ h => h) (Or.inl ⟨by rfl, ?_⟩) hHeld ?_
          rotate_left
          · intro w' hSw
            (try dsimp only at hSw)
            simp only [List.getElem_toArray, List.getElem_cons_zero, List.getElem_cons_succ]
            go_simp
            all_goals (try with_reducible rfl)
          try simp only [Act.put, List.setIfInBounds_toArray, List.set_cons_zero, List.set_cons_succ, List.getElem_toArray, List.getElem_cons_zero, List.getElem_cons_succ]
          refine wpAnyH_ready (rs := [2]) (by kernel_rfl) (by simp) ?_
          refine AllReadyH.cons (by rfl) (fun K hK => ?_) AllReadyH.nil
          simp only [List.getElem_toArray, List.getElem_cons_zero, List.getElem_cons_succ]
          go_simp
          refine (K12.out _).mono ?_
          rintro e w6 ⟨rfl, rfl⟩
          (try dsimp only)
          refine hK.out _ _ C1.out (fun hHeld => ?_)
          clear hK K
          try simp only [Act.put, List.setIfInBounds_toArray, List.set_cons_zero, List.set_cons_succ, List.getElem_toArray, List.getElem_cons_zero, List.getElem_cons_succ]
          refine wpAnyH_take (i := 3) (v := _) (by rfl) (by kernel_rfl) (by kernel_rfl) (by kernel_rfl) (fun _ _ _ h => h) (yields_as (s := p12) (t := [46]) (r := q1) HQ.out.1 (by rfl) _ _ (by rfl) rfl rfl Z.out.1) hHeld ?_
          try simp only [Act.put, List.setIfInBounds_toArray, List.set_cons_zero, List.set_cons_succ, List.getElem_toArray, List.getElem_cons_zero, List.getElem_cons_succ]
          refine wpAnyH_ready (rs := [6]) (by kernel_rfl) (by simp) ?_
          refine AllReadyH.cons (by rfl) (fun K hK => ?_) AllReadyH.nil
          simp only [List.getElem_toArray, List.getElem_cons_zero, List.getElem_cons_succ]
          go_simp
          refine (K13.out _).mono ?_
          rintro e w6 ⟨rfl, rfl⟩
          (try dsimp only)
          refine hK.out _ _ C1.out (fun hHeld => ?_)
          clear hK K
          try simp only [Act.put, List.setIfInBounds_toArray, List.set_cons_zero, List.set_cons_succ, List.getElem_toArray, List.getElem_cons_zero, List.getElem_cons_succ]
          refine wpAnyH_take (i := 7) (v := _) (by rfl) (by kernel_rfl) (by kernel_rfl) (by kernel_rfl) (fun _ _ _ h => h) (yields_as (s := q1) (t := p13) (r := q2) HQ.out.2.1 (by rfl) _ _ (by rfl) rfl rfl Z.out.2.1) hHeld ?_
          try simp only [Act.put, List.setIfInBounds_toArray, List.set_cons_zero, List.set_cons_succ, List.getElem_toArray, List.getElem_cons_zero, List.getElem_cons_succ]
          refine wpAnyH_take (i := 8) (v := _) (by rfl) (by kernel_rfl) (by kernel_rfl) (by kernel_rfl) (fun _ _ _ h => h) (yields_as (s := q2) (t := [46]) (r := q3) HQ.out.2.2.1 (by rfl) _ _ (by rfl) rfl rfl Z.out.2.2.1) hHeld ?_
          try simp only [Act.put, List.setIfInBounds_toArray, List.set_cons_zero, List.set_cons_succ, List.getElem_toArray, List.getElem_cons_zero, List.getElem_cons_succ]
          refine wpAnyH_ready (rs := [11]) (by kernel_rfl) (by simp) ?_
          refine AllReadyH.cons (by rfl) (fun K hK => ?_) AllReadyH.nil
          simp only [List.getElem_toArray, List.getElem_cons_zero, List.getElem_cons_succ]
          go_simp
          refine (K14.out _).mono ?_
          rintro e w6 ⟨rfl, rfl⟩
          (try dsimp only)
          refine hK.out _ _ C1.out (fun hHeld => ?_)
          clear hK K
          try simp only [Act.put, List.setIfInBounds_toArray, List.set_cons_zero, List.set_cons_succ, List.getElem_toArray, List.getElem_cons_zero, List.getElem_cons_succ]
          refine wpAnyH_take (i := 12) (v := _) (by rfl) (by kernel_rfl) (by kernel_rfl) (by kernel_rfl) (fun _ _ _ h => h) (yields_as (s := q3) (t := p14) (r := q4) HQ.out.2.2.2.1 (by rfl) _ _ (by rfl) rfl rfl Z.out.2.2.2.1) hHeld ?_
          try simp only [Act.put, List.setIfInBounds_toArray, List.set_cons_zero, List.set_cons_succ, List.getElem_toArray, List.getElem_cons_zero, List.getElem_cons_succ]
          refine wpAnyH_take (i := 13) (v := _) (by rfl) (by kernel_rfl) (by kernel_rfl) (by kernel_rfl) (fun _ _ _ h => h) (yields_as (s := q4) (t := [46]) (r := q5) HQ.out.2.2.2.2.1 (by rfl) _ _ (by rfl) rfl rfl Z.out.2.2.2.2.1) hHeld ?_
          try simp only [Act.put, List.setIfInBounds_toArray, List.set_cons_zero, List.set_cons_succ, List.getElem_toArray, List.getElem_cons_zero, List.getElem_cons_succ]
          refine wpAnyH_ready (rs := [16]) (by kernel_rfl) (by simp) ?_
          refine AllReadyH.cons (by rfl) (fun K hK => ?_) AllReadyH.nil
          simp only [List.getElem_toArray, List.getElem_cons_zero, List.getElem_cons_succ]
          go_simp
          refine (K15.out _).mono ?_
          rintro e w6 ⟨rfl, rfl⟩
          (try dsimp only)
          refine hK.out _ _ C1.out (fun hHeld => ?_)
          clear hK K
          try simp only [Act.put, List.setIfInBounds_toArray, List.set_cons_zero, List.set_cons_succ, List.getElem_toArray, List.getElem_cons_zero, List.getElem_cons_succ]
          refine wpAnyH_take (i := 17) (v := _) (by rfl) (by kernel_rfl) (by kernel_rfl) (by kernel_rfl) (fun _ _ _ h => h) (yields_as (s := q5) (t := p15) (r := fw) HQ.out.2.2.2.2.2 (by rfl) _ _ (by rfl) rfl rfl Z.out.2.2.2.2.2) hHeld ?_
          try simp only [Act.put, List.setIfInBounds_toArray, List.set_cons_zero, List.set_cons_succ, List.getElem_toArray, List.getElem_cons_zero, List.getElem_cons_succ]
          refine wpAnyH_take (i := 18) (v := ?_) (by rfl) (by kernel_rfl) (by kernel_rfl) (by kernel_rfl) (fun _ _ _ h => h) (Or.inl ⟨by rfl, ?_⟩) hHeld ?_
          rotate_left
          · intro w' hSw
            (try dsimp only at hSw)
            simp only [List.getElem_toArray, List.getElem_cons_zero, List.getElem_cons_succ]
            go_simp
            all_goals (try with_reducible rfl)
          try simp only [Act.put, List.setIfInBounds_toArray, List.set_cons_zero, List.set_cons_succ, List.getElem_toArray, List.getElem_cons_zero, List.getElem_cons_succ]
          refine wpAnyH_ready (rs := [19]) (by kernel_rfl) (by simp) ?_
          refine AllReadyH.cons (by rfl) (fun K hK => ?_) AllReadyH.nil
          simp only [List.getElem_toArray, List.getElem_cons_zero, List.getElem_cons_succ]
          go_simp
          (try dsimp only)
          refine hK.out _ _ C2.out (fun hHeld => ?_)
          clear hK K
          try simp only [Act.put, List.setIfInBounds_toArray, List.set_cons_zero, List.set_cons_succ, List.getElem_toArray, List.getElem_cons_zero, List.getElem_cons_succ]
          refine wpAnyH_done (by kernel_rfl) ?_ _
          refine NoPanic.normal ?_
          clear hHeld
          go_wp2_with fail
          go_meet
          exact ⟨rfl, PP.out⟩
      case rest =>
        obtain ⟨rfl, hM⟩ := hcut
        obtain ⟨l, hS⟩ := setup_of HX.out tail (bgOf big) HBL.out HFW.out HL8.out HSS.out HMY.out
        have M := veil hM.out
        have HS := veil hS
        clear hM hS HBL HFW HL8 HSS HMY H8 HWA
        generalize wc = wr at *
        have m8 : (many : Int) ≤ 8 := by have := HS.out.m8; omega
        go_wp2_with fail
        go_loopw [13, 15] (fun s i wx => ∃ (j : Nat) (S : Str), j ≤ many ∧ s = .string (bs S) ∧ i = .int .i64 j ∧ Hid (S = J (l.take j)) ∧ wr = wx) (fun _ i _ => many - (intOf i).toNat)
        case atStart => exact ⟨0, [], by omega, rfl, rfl, rfl, rfl⟩
        case round =>
          obtain ⟨j, S, hj, rfl, rfl, hSj, rfl⟩ := hrel
          by_cases hlt : j < many
          · have cg : wr.cell? ⟨gG, j, none⟩ = some (.string (bs (l.getD j []))) := by
              rw [← HS.out.same j hlt]
              exact M.out.word (by rw [HS.out.slen]; have := HS.out.m8; omega)
            have l1 := HS.out.jlen j
            have l2 := HS.out.jlen (j + 1)
            by_cases hj0 : j = 0
            · subst hj0
              have hX := J_first (l := l) (by rw [HS.out.len]; exact hlt)
              have hS0 : S = [] := by have := hSj.out; rw [this]; simp [J_nil]
              generalize l.getD 0 [] = X at *
              have HXS : Hid (S ++ X = X) := by unfold Hid; rw [hS0, List.nil_append]
              have Z : Hid (Fits S X) := by unfold Hid Fits; rw [hS0, hX, List.length_nil]; simp only [Nat.zero_add] at l2 ⊢; omega
              have HX1 := veil hX
              have hlt' : (0 : Int) < many := by omega
              clear hX hS0 hSj l1 l2
              go_wp2_with (refine wpList_add_as S X HXS.out rfl _ _ rfl rfl rfl Z.out ?_)
              go_roundw
              case rel =>
                repeat apply Exists.intro
                refine And.intro ?_ rfl
                exact ⟨1, X, by omega, rfl, by go_num, HX1.out, trivial⟩
              case measure => simp [intOf]; omega
            · have hX := J_next (l := l) (i := j) (by omega) (by rw [HS.out.len]; exact hlt)
              rw [← hSj.out] at hX
              generalize l.getD j [] = X at *
              have hz := congrArg List.length hX
              simp only [List.length_append, List.length_cons, List.length_nil] at hz
              obtain ⟨S2, hS2⟩ : ∃ S2, S ++ [58] = S2 := ⟨_, rfl⟩
              rw [hS2] at hX
              have Z : Hid (Fits S [58] ∧ Fits S2 X) := by
                unfold Hid Fits
                rw [← hS2]
                simp only [List.length_append, List.length_cons, List.length_nil]
                omega
              obtain ⟨S3, hS3⟩ : ∃ S3, S2 ++ X = S3 := ⟨_, rfl⟩
              rw [hS3] at hX
              have HQ := veil (And.intro hS2 (And.intro hS3 hX))
              have hlt' : (j : Int) < many := by omega
              have hj0' : (0 : Int) < j := by omega
              have p7 : ¬ ((j : Int) < 0) := by omega
              have p8 : (j : Int) < 8 := by have := HS.out.m8; omega
              have p9 : (j : Int).toNat = j := by omega
              clear hX hS2 hS3 hz hSj l1 l2
              go_wp2_with (first
                | (refine wpList_add_as S [58] HQ.out.1 rfl _ _ rfl rfl rfl Z.out.1 ?_)
                | (refine wpList_add_as S2 X HQ.out.2.1 rfl _ _ rfl rfl rfl Z.out.2 ?_))
              go_roundw
              case rel =>
                exact ⟨j + 1, by omega, S3, rfl, by omega, HQ.out.2.2⟩
              case measure => simp [intOf]; omega
          · obtain rfl : j = many := by omega
            have hSJ : S = J l := by have := hSj.out; rwa [HS.out.jall] at this
            have hl := HS.out.jlen j
            rw [HS.out.jall, ← hSJ] at hl
            have LA := veil (load_rng (rng_row M.out.ra) HX.out.len)
            have KA : Hid (∀ v, Tw v → Calls Tryd.prog 13 #[.string (bs S), av xs] v fun e w' => e = .returned (.bool true) ∧ Below v.heap.size v w') := fun v h => is_true S xs v HX.out (by omega) h.mx (by rw [hSJ]; exact HS.out.all)
            obtain ⟨N1, hN1⟩ : ∃ N1, S ++ [58] = N1 := ⟨_, rfl⟩
            obtain ⟨N2, hN2⟩ : ∃ N2, [58] ++ S = N2 := ⟨_, rfl⟩
            obtain ⟨N3, hN3⟩ : ∃ N3, S ++ [58, 58, 49] = N3 := ⟨_, rfl⟩
            obtain ⟨N4, hN4⟩ : ∃ N4, S ++ [32] = N4 := ⟨_, rfl⟩
            have K1 : Hid (∀ v, Tw v → Calls Tryd.prog 16 #[.string (bs N1)] v fun e w' => e = .returned (.bool true) ∧ Below v.heap.size v w') := fun v h => none_true N1 v (by rw [← hN1]; simp; omega) h.mx (by rw [← hN1, hSJ]; exact HS.out.n1)
            have K2 : Hid (∀ v, Tw v → Calls Tryd.prog 16 #[.string (bs N2)] v fun e w' => e = .returned (.bool true) ∧ Below v.heap.size v w') := fun v h => none_true N2 v (by rw [← hN2]; simp; omega) h.mx (by rw [← hN2, hSJ]; exact HS.out.n2)
            have K3 : Hid (∀ v, Tw v → Calls Tryd.prog 16 #[.string (bs N3)] v fun e w' => e = .returned (.bool true) ∧ Below v.heap.size v w') := fun v h => none_true N3 v (by rw [← hN3]; simp; omega) h.mx (by rw [← hN3, hSJ]; exact HS.out.n3)
            have K4 : Hid (∀ v, Tw v → Calls Tryd.prog 16 #[.string (bs N4)] v fun e w' => e = .returned (.bool true) ∧ Below v.heap.size v w') := fun v h => none_true N4 v (by rw [← hN4]; simp; omega) h.mx (by rw [← hN4, hSJ]; exact HS.out.n4)
            have Z : Hid (Fits S [58] ∧ Fits [58] S ∧ Fits S [58, 58, 49] ∧ Fits S [32]) := by
              unfold Hid Fits
              simp only [List.length_cons, List.length_nil]
              omega
            have HN := veil (And.intro hN1 (And.intro hN2 (And.intro hN3 hN4)))
            have hlt' : ¬ (j : Int) < j := by omega
            clear hN1 hN2 hN3 hN4 hl hSJ hSj hlt hj
            go_wp2_with (refine wpList_load_of rfl _ rfl rfl LA.out ?_)
            refine (KA.out _ M.out.tw).mono ?_
            rintro e w6 ⟨rfl, q⟩
            have M := veil (M.out.keep q)
            clear q LA KA
            go_wp2_with (refine wpList_add_as S [58] HN.out.1 rfl _ _ rfl rfl rfl Z.out.1 ?_)
            refine (K1.out _ M.out.tw).mono ?_
            rintro e w7 ⟨rfl, q⟩
            have M := veil (M.out.keep q)
            clear q K1
            go_wp2_with (refine wpList_add_as [58] S HN.out.2.1 rfl _ _ rfl rfl rfl Z.out.2.1 ?_)
            refine (K2.out _ M.out.tw).mono ?_
            rintro e w8 ⟨rfl, q⟩
            have M := veil (M.out.keep q)
            clear q K2
            go_wp2_with (refine wpList_add_as S [58, 58, 49] HN.out.2.2.1 rfl _ _ rfl rfl rfl Z.out.2.2.1 ?_)
            refine (K3.out _ M.out.tw).mono ?_
            rintro e w9 ⟨rfl, q⟩
            have M := veil (M.out.keep q)
            clear q K3
            go_wp2_with (refine wpList_add_as S [32] HN.out.2.2.2 rfl _ _ rfl rfl rfl Z.out.2.2.2 ?_)
            refine (K4.out _ M.out.tw).mono ?_
            rintro e w10 ⟨rfl, q⟩
            have M := veil (M.out.keep q)
            clear q K4
            clear HN Z hlt'
            obtain ⟨t1, ht1⟩ : ∃ t1, min t0 j = t1 := ⟨_, rfl⟩
            obtain ⟨t, htt⟩ : ∃ t, (if tail then min t1 6 else t1) = t := ⟨_, rfl⟩
            have HT1 := veil ht1
            have HTT := veil htt
            clear ht1 htt
            go_upto_region 23 with fail
            go_cut [9] from 121 to 123 (fun v wx => v = .int .i64 t1 ∧ w10 = wx)
            case first =>
              have ht1 := HT1.out
              by_cases hc : t0 ≤ j
              · have hc1 : (t0 : Int) ≤ j := by omega
                have hc2 : ¬ (j : Int) < t0 := by omega
                have hmm : Hid (t0 = t1) := by unfold Hid; omega
                go_wp2_with fail
                go_meet
                exact ⟨congrArg (Value.int .i64) (by have := hmm.out; omega), rfl⟩
              · have hc1 : ¬ (t0 : Int) ≤ j := by omega
                have hc2 : (j : Int) < t0 := by omega
                have hmm : Hid (j = t1) := by unfold Hid; omega
                go_wp2_with fail
                go_meet
                exact ⟨congrArg (Value.int .i64) (by have := hmm.out; omega), rfl⟩
            case rest =>
              obtain ⟨rfl, rfl⟩ := hcut
              go_upto_if 124 with fail
              go_cut [9] from 125 to 126 (fun v wx => v = .int .i64 t ∧ w10 = wx)
              case first =>
                have htt := HTT.out
                cases htl : tail with
                | false =>
                  subst htl
                  obtain rfl : t1 = t := htt
                  go_wp2_with fail
                  go_meet
                  exact ⟨rfl, rfl⟩
                | true =>
                  subst htl
                  simp only [if_true] at htt
                  by_cases hc : t1 ≤ 6
                  · have hc1 : (t1 : Int) ≤ 6 := by omega
                    have hc2 : ¬ (6 : Int) < t1 := by omega
                    have hmm : Hid (t1 = t) := by unfold Hid; omega
                    go_wp2_with fail
                    go_meet
                    exact ⟨congrArg (Value.int .i64) (by have := hmm.out; omega), rfl⟩
                  · have hc1 : ¬ (t1 : Int) ≤ 6 := by omega
                    have hc2 : (6 : Int) < t1 := by omega
                    have hmm : Hid (6 = t) := by unfold Hid; omega
                    go_wp2_with fail
                    go_meet
                    exact ⟨congrArg (Value.int .i64) (by have := hmm.out; omega), rfl⟩
              case rest =>
                obtain ⟨rfl, rfl⟩ := hcut
                have htj : t ≤ j := by
                  have h1 := HT1.out
                  have h2 := HTT.out
                  split at h2 <;> omega
                have htr : t ≤ restOf tail := by
                  have h1 := HT1.out
                  have h2 := HTT.out
                  have h3 := HF.out.2
                  cases tail
                  · show t ≤ 8
                    simp only [Bool.false_eq_true, if_false] at h2
                    omega
                  · show t ≤ 6
                    simp only [if_true] at h2
                    omega
                clear HT1 HTT
                by_cases hft : t ≤ f
                · have hft' : (t : Int) ≤ f := by omega
                  go_wp2_with fail
                  refine (lives_true _ M.out.tw).mono ?_
                  rintro e w11 ⟨rfl, q⟩
                  have M := veil (M.out.keep q)
                  clear q
                  go_wp2_with fail
                  go_ret
                  exact ⟨rfl, M.out.below⟩
                · have hft' : ¬ (t : Int) ≤ f := by omega
                  have hfj : f < j := by omega
                  obtain ⟨Z, hZ⟩ : ∃ Z : Array Value, Z = #[.int .u8 0, .int .u8 0, .int .u8 0, .int .u8 0, .int .u8 0, .int .u8 0, .int .u8 0, .int .u8 0, .int .u8 0, .int .u8 0, .int .u8 0, .int .u8 0, .int .u8 0, .int .u8 0, .int .u8 0, .int .u8 0] := ⟨_, rfl⟩
                  have hZs : Z.size = 16 := by rw [hZ]; rfl
                  have HZ := veil hZ
                  have LA := veil (load_rng (rng_row M.out.ra) HX.out.len)
                  have q3 := below_new w10 (.cells Z 23)
                  have r3 := row_new (w := w10) (g := w10.heap.size) (cs := Z) (t := 23) rfl
                  have T1 := veil (store_row r3 hZs HX.out.len)
                  have b4 := below_setRow q3 w10.heap.size (bv xs).toArray (Nat.le_refl _)
                  have R4 := r3.setRow (bv xs).toArray
                  have M4 := veil (M.out.keep b4)
                  have hag := M.out.ra.lt
                  have hgg := M.out.rg.lt
                  have hw0 := M.out.below.size
                  obtain ⟨gC, hgC⟩ : ∃ g, w10.heap.size = g := ⟨_, rfl⟩
                  have HGC := veil hgC
                  obtain ⟨w11, hw11⟩ : ∃ w11, (w10.alloc (.cells Z 23)).setRow w10.heap.size (bv xs).toArray = w11 := ⟨_, rfl⟩
                  rw [hw11, HZ.out] at T1
                  rw [hw11, hgC] at R4
                  rw [hw11] at M4
                  have NE : Hid (gA ≠ gC ∧ gG ≠ gC ∧ w.heap.size ≤ gC) := ⟨by omega, by omega, by omega⟩
                  have RC : Hid (Row w11 gC 23 (bv (cz xs f t 0)).toArray) := by rw [cz_zero HX.out.len]; exact R4
                  have hj8 : (j : Int) ≤ 8 := m8
                  clear hZ hZs q3 r3 b4 R4 hag hgg hw0 hgC hw11 M
                  go_wp2_with (first
                    | (refine wpList_load_of rfl _ rfl rfl LA.out ?_)
                    | (refine wpList_store_of rfl _ _ rfl rfl rfl T1.out ?_))
                  clear LA T1 HZ
                  rw [HGC.out]
                  go_loopw [14, 17] (fun s i wx => ∃ (i2 : Nat) (C : Str), i2 ≤ j ∧ s = .string (bs C) ∧ i = .int .i64 i2 ∧ Hid (C = cutS l f t i2 ∧ Fm w wx gA gG xs ss ∧ Row wx gC 23 (bv (cz xs f t i2)).toArray)) (fun _ i _ => j - (intOf i).toNat)
                  case atStart => exact ⟨0, [], by omega, rfl, rfl, (cutS_zero l f t).symm, M4.out, RC.out⟩
                  case round =>
                    obtain ⟨i2, C, hi2, rfl, rfl, hH⟩ := hrel
                    clear M4 RC HGC
                    obtain ⟨hC, hM, hR⟩ := hH.out
                    by_cases hlt : i2 < j
                    · have hlt' : (i2 : Int) < j := by omega
                      have hc1 := cutS_most HS.out.most (by rw [HS.out.len]; exact HS.out.m8) f t i2
                      have hc2 := cutS_most HS.out.most (by rw [HS.out.len]; exact HS.out.m8) f t (i2 + 1)
                      have hll : i2 < l.length := by rw [HS.out.len]; exact hlt
                      have h88 : (i2 : Int) < 8 := by omega
                      have p7 : ¬ ((i2 : Int) < 0) := by omega
                      have p9 : (i2 : Int).toNat = i2 := by omega
                      by_cases hin : f ≤ i2 ∧ i2 < t
                      · have hz := cz_set (xs := xs) hin
                        obtain ⟨k, hk⟩ : ∃ k, 2 * i2 = k := ⟨_, rfl⟩
                        obtain ⟨m, hm⟩ : ∃ m, k + 1 = m := ⟨_, rfl⟩
                        have hcl := cz_len xs f t i2
                        rw [hk, hm] at hz
                        have c1 : wr.cell? ⟨gC, k, none⟩ = some (.int .u8 ((cz xs f t i2).getD k 0)) := rng_at (rng_row hR) (by rw [hcl]; omega)
                        have f1 : wr.frozen? ⟨gC, k, none⟩ = false := hR.frozen k
                        have R1 := hR.set k (.int .u8 0)
                        rw [bv_set'] at R1
                        have M1 := hM.far k (.int .u8 0) NE.out.1 NE.out.2.1 NE.out.2.2
                        have c2 : (wr.setCell ⟨gC, k, none⟩ (.int .u8 0)).cell? ⟨gC, m, none⟩ = some (.int .u8 (((cz xs f t i2).set k 0).getD m 0)) := rng_at (rng_row R1) (by rw [List.length_set, hcl]; omega)
                        have f2 : (wr.setCell ⟨gC, k, none⟩ (.int .u8 0)).frozen? ⟨gC, m, none⟩ = false := R1.frozen m
                        have R2 := R1.set m (.int .u8 0)
                        rw [bv_set', hz] at R2
                        have M2 := M1.far m (.int .u8 0) NE.out.1 NE.out.2.1 NE.out.2.2
                        generalize (cz xs f t i2).getD k 0 = y1 at c1
                        generalize ((cz xs f t i2).set k 0).getD m 0 = y2 at c2
                        have MM := veil M2
                        have RR := veil R2
                        have s2 : IntKind.i64.wrap (2 * (i2 : Int)) = (k : Int) := by rw [IntWalk.i64_in _ (by omega)]; omega
                        have s3 : IntKind.i64.wrap ((k : Int) + 1) = (m : Int) := by rw [IntWalk.i64_in _ (by omega)]; omega
                        have k1 : ¬ ((k : Int) < 0) := by omega
                        have k2 : (k : Int) < 16 := by omega
                        have k3 : (k : Int).toNat = k := by omega
                        have k4 : ¬ ((m : Int) < 0) := by omega
                        have k5 : (m : Int) < 16 := by omega
                        have k6 : (m : Int).toNat = m := by omega
                        have g1 : (f : Int) ≤ i2 := by omega
                        have g2 : (i2 : Int) < t := by omega
                        by_cases he : i2 = f
                        · have hcu := cutS_gap (l := l) (f := f) (t := t) (by omega)
                          rw [← he] at hcu
                          have hCC : C ++ [58, 58] = cutS l f t (i2 + 1) := by rw [hC, ← he]; exact hcu
                          obtain ⟨C2, hC2⟩ : ∃ C2, C ++ [58, 58] = C2 := ⟨_, rfl⟩
                          have HQ := veil (And.intro hC2 (hC2.symm.trans hCC))
                          have Z : Hid (Fits C [58, 58]) := by unfold Hid Fits; rw [hC]; simp only [List.length_cons, List.length_nil]; omega
                          have g3 : (i2 : Int) = f := by omega
                          have g4 : ((i2 : Int) == f) = true := by rw [beq_iff_eq]; exact g3
                          clear hcu hCC hC2 hH hC hM hR R1 M1 R2 M2 hz hk hm hcl hc1 hc2 he hin g3
                          go_upto_region 34 with fail
                          generalize wr.setCell ⟨gC, k, none⟩ (.int .u8 0) = wy at *
                          go_upto_region 35 with fail
                          generalize wy.setCell ⟨gC, m, none⟩ (.int .u8 0) = wz at *
                          go_wp2_with (refine wpList_add_as C [58, 58] HQ.out.1 rfl _ _ rfl rfl rfl Z.out ?_)
                          go_roundw
                          case rel => exact ⟨i2 + 1, C2, by omega, rfl, by go_num, HQ.out.2, MM.out, RR.out⟩
                          case measure => simp [intOf]; omega
                        · have hcu := cutS_in (l := l) (f := f) (t := t) (i := i2) (by omega) hin.2
                          have HQ := veil (hC.trans hcu)
                          have g3 : ¬ (i2 : Int) = f := by omega
                          have g4 : ((i2 : Int) == f) = false := by rw [beq_eq_false_iff_ne]; exact g3
                          clear hcu hH hC hM hR R1 M1 R2 M2 hz hk hm hcl hc1 hc2 he hin g3
                          go_upto_region 34 with fail
                          generalize wr.setCell ⟨gC, k, none⟩ (.int .u8 0) = wy at *
                          go_upto_region 35 with fail
                          generalize wy.setCell ⟨gC, m, none⟩ (.int .u8 0) = wz at *
                          go_wp2_with fail
                          go_roundw
                          case rel => exact ⟨i2 + 1, C, by omega, rfl, by go_num, HQ.out, MM.out, RR.out⟩
                          case measure => simp [intOf]; omega
                      · have hz := cz_out (xs := xs) hin
                        rw [← hz] at hR
                        have cg : wr.cell? ⟨gG, i2, none⟩ = some (.string (bs (l.getD i2 []))) := by
                          rw [← HS.out.same i2 hlt]
                          exact hM.word (by rw [HS.out.slen]; omega)
                        have MM := veil hM
                        have RR := veil hR
                        by_cases hlo : i2 < f
                        · by_cases h0 : i2 = 0
                          · have hcu : C ++ l.getD i2 [] = cutS l f t (i2 + 1) := by
                              rw [hC]
                              rw [h0] at hlo hll ⊢
                              exact cutS_first hlo hll
                            generalize l.getD i2 [] = X at *
                            have hzl := congrArg List.length hcu
                            rw [List.length_append] at hzl
                            have Z : Hid (Fits C X) := by unfold Hid Fits; omega
                            obtain ⟨C2, hC2⟩ : ∃ C2, C ++ X = C2 := ⟨_, rfl⟩
                            have HQ := veil (And.intro hC2 (hC2.symm.trans hcu))
                            have g1 : ¬ (f : Int) ≤ i2 := by omega
                            have g5 : ¬ (0 : Int) < i2 := by omega
                            clear hcu hC2 hzl hH hC hM hR hz hc1 hc2 hin hll h0
                            go_wp2_with (refine wpList_add_as C X HQ.out.1 rfl _ _ rfl rfl rfl Z.out ?_)
                            go_roundw
                            case rel => exact ⟨i2 + 1, C2, by omega, rfl, by go_num, HQ.out.2, MM.out, RR.out⟩
                            case measure => simp [intOf]; omega
                          · have hcu : C ++ [58] ++ l.getD i2 [] = cutS l f t (i2 + 1) := by
                              rw [hC]
                              exact cutS_low (by omega) hlo hll
                            generalize l.getD i2 [] = X at *
                            have hzl := congrArg List.length hcu
                            rw [List.length_append, List.length_append, List.length_cons, List.length_nil] at hzl
                            have Z : Hid (Fits C [58] ∧ Fits (C ++ [58]) X) := by unfold Hid Fits; rw [List.length_append, List.length_cons, List.length_nil]; omega
                            obtain ⟨C1, hC1⟩ : ∃ C1, C ++ [58] = C1 := ⟨_, rfl⟩
                            rw [hC1] at hcu Z
                            obtain ⟨C2, hC2⟩ : ∃ C2, C1 ++ X = C2 := ⟨_, rfl⟩
                            have HQ := veil (And.intro hC1 (And.intro hC2 (hC2.symm.trans hcu)))
                            have g1 : ¬ (f : Int) ≤ i2 := by omega
                            have g5 : (0 : Int) < i2 := by omega
                            have g6 : ¬ (i2 : Int) = t := by omega
                            have g7 : ((i2 : Int) != t) = true := by rw [bne_iff_ne]; exact g6
                            clear hcu hC1 hC2 hzl hH hC hM hR hz hc1 hc2 hin hll
                            go_wp2_with (first
                              | (refine wpList_add_as C [58] HQ.out.1 rfl _ _ rfl rfl rfl Z.out.1 ?_)
                              | (refine wpList_add_as C1 X HQ.out.2.1 rfl _ _ rfl rfl rfl Z.out.2 ?_))
                            go_roundw
                            case rel => exact ⟨i2 + 1, C2, by omega, rfl, by go_num, HQ.out.2.2, MM.out, RR.out⟩
                            case measure => simp [intOf]; omega
                        · by_cases h0 : i2 = t
                          · have hcu : C ++ l.getD i2 [] = cutS l f t (i2 + 1) := by
                              rw [hC]
                              rw [h0] at hll ⊢
                              exact cutS_at (by omega) hll
                            generalize l.getD i2 [] = X at *
                            have hzl := congrArg List.length hcu
                            rw [List.length_append] at hzl
                            have Z : Hid (Fits C X) := by unfold Hid Fits; omega
                            obtain ⟨C2, hC2⟩ : ∃ C2, C ++ X = C2 := ⟨_, rfl⟩
                            have HQ := veil (And.intro hC2 (hC2.symm.trans hcu))
                            have g1 : (f : Int) ≤ i2 := by omega
                            have g2 : ¬ (i2 : Int) < t := by omega
                            have g5 : (0 : Int) < i2 := by omega
                            have g6 : (i2 : Int) = t := by omega
                            have g7 : ((i2 : Int) != t) = false := by rw [bne_eq_false_iff_eq]; exact g6
                            clear g6
                            clear hcu hC2 hzl hH hC hM hR hz hc1 hc2 hin hll h0
                            go_wp2_with (refine wpList_add_as C X HQ.out.1 rfl _ _ rfl rfl rfl Z.out ?_)
                            go_roundw
                            case rel => exact ⟨i2 + 1, C2, by omega, rfl, by go_num, HQ.out.2, MM.out, RR.out⟩
                            case measure => simp [intOf]; omega
                          · have hcu : C ++ [58] ++ l.getD i2 [] = cutS l f t (i2 + 1) := by
                              rw [hC]
                              exact cutS_high (by omega) (by omega) hll
                            generalize l.getD i2 [] = X at *
                            have hzl := congrArg List.length hcu
                            rw [List.length_append, List.length_append, List.length_cons, List.length_nil] at hzl
                            have Z : Hid (Fits C [58] ∧ Fits (C ++ [58]) X) := by unfold Hid Fits; rw [List.length_append, List.length_cons, List.length_nil]; omega
                            obtain ⟨C1, hC1⟩ : ∃ C1, C ++ [58] = C1 := ⟨_, rfl⟩
                            rw [hC1] at hcu Z
                            obtain ⟨C2, hC2⟩ : ∃ C2, C1 ++ X = C2 := ⟨_, rfl⟩
                            have HQ := veil (And.intro hC1 (And.intro hC2 (hC2.symm.trans hcu)))
                            have g1 : (f : Int) ≤ i2 := by omega
                            have g2 : ¬ (i2 : Int) < t := by omega
                            have g5 : (0 : Int) < i2 := by omega
                            have g6 : ¬ (i2 : Int) = t := by omega
                            have g7 : ((i2 : Int) != t) = true := by rw [bne_iff_ne]; exact g6
                            clear hcu hC1 hC2 hzl hH hC hM hR hz hc1 hc2 hin hll
                            go_wp2_with (first
                              | (refine wpList_add_as C [58] HQ.out.1 rfl _ _ rfl rfl rfl Z.out.1 ?_)
                              | (refine wpList_add_as C1 X HQ.out.2.1 rfl _ _ rfl rfl rfl Z.out.2 ?_))
                            go_roundw
                            case rel => exact ⟨i2 + 1, C2, by omega, rfl, by go_num, HQ.out.2.2, MM.out, RR.out⟩
                            case measure => simp [intOf]; omega
                    · obtain rfl : i2 = j := by omega
                      have hce := cutS_end (l := l) (f := f) (t := t) (by rw [HS.out.len]; exact hfj)
                      rw [HS.out.len, ← hC] at hce
                      have hc1 := cutS_most HS.out.most (by rw [HS.out.len]; exact HS.out.m8) f t i2
                      have hgc := cz_grp xs (f := f) (t := t) (i := i2) (by omega) htj (by have := HS.out.m8; omega)
                      have K5 : Hid (∀ v, Tw v → Calls Tryd.prog 13 #[.string (bs C), av (cz xs f t i2)] v fun e w' => e = .returned (.bool true) ∧ Below v.heap.size v w') := fun v h => is_true C (cz xs f t i2) v (cz_ok HX.out f t i2) (by rw [hC]; omega) h.mx (by rw [hgc, hce]; exact HS.out.cut f t (by omega) htr)
                      have LC := veil (load_rng (rng_row hR) (cz_len xs f t i2))
                      have M := veil hM
                      have hlt' : ¬ (i2 : Int) < i2 := by omega
                      generalize cz xs f t i2 = ys at *
                      clear hce hc1 hgc hH hC hM hR hlt
                      go_wp2_with (refine wpList_load_of rfl _ rfl rfl LC.out ?_)
                      refine (K5.out _ M.out.tw).mono ?_
                      rintro e w12 ⟨rfl, q⟩
                      have M := veil (M.out.keep q)
                      clear q K5 LC
                      go_wp2_with fail
                      refine (lives_true _ M.out.tw).mono ?_
                      rintro e w13 ⟨rfl, q⟩
                      have M := veil (M.out.keep q)
                      clear q
                      go_wp2_with fail
                      go_ret
                      exact ⟨rfl, M.out.below⟩
theorem cells3 : Tryd.prog.cellsOf 33 = 3 := by kernel_rfl
set_option maxRecDepth 100000 in
theorem open_three {H : Type} {enc : TypeId × Value → H} {W : World} {base : Nat} {sp : Nat → Bool} {held : Bool} {v : Value} {d : DataW H} {p : List MemPlace} {r : Reach} {b0 : Nat} (hv : Value.okWide Tryd.prog W r b0 33 v) (h : DataW.Trod enc Tryd.prog W base sp held 33 v d p) :
    ∃ (zs : List Int) (z0 z1 z2 : Nat), v = .agg (bv zs).toArray ∧ zs = [(z0 : Int), (z1 : Int), (z2 : Int)] ∧ z0 < 256 ∧ z1 < 256 ∧ z2 < 256 := by
  obtain ⟨cs, rfl, hsz⟩ := okWide_array' Tryd.underlying33 hv
  obtain ⟨fuel, hf⟩ := h
  obtain ⟨xs, hx, hl, hw⟩ := ints_of_array Tryd.underlying33 Tryd.underlying5 cellsByte cells3 hf
  have hx' : cs.toList = bv xs := hx
  have hb := fun z hz => u8_of (hw z hz)
  match xs, hl, hb, hx' with
  | [a, b, c], _, hb, hx' =>
    have h1 := hb a (by simp)
    have h2 := hb b (by simp)
    have h3 := hb c (by simp)
    refine ⟨[a, b, c], a.toNat, b.toNat, c.toNat, ?_, ?_, by omega, by omega, by omega⟩
    · show Value.agg cs = .agg (bv [a, b, c]).toArray
      rw [← hx']
    · rw [Int.toNat_of_nonneg h1.1, Int.toNat_of_nonneg h2.1, Int.toNat_of_nonneg h3.1]

theorem own : ownKnob Tryd.prog.godebug = none := by kernel_rfl
theorem readable : ∀ t ∈ Tryd.f6.params.toList, Tryd.prog.readableRec t = true ∧ t < Tryd.prog.types.size := by
  rw [Tryd.params6]
  intro t ht
  simp at ht
  rcases ht with rfl | rfl | rfl
  · exact ⟨by kernel_rfl, of_decide_eq_true (by kernel_rfl)⟩
  · exact ⟨by kernel_rfl, of_decide_eq_true (by kernel_rfl)⟩
  · exact ⟨by kernel_rfl, of_decide_eq_true (by kernel_rfl)⟩

set_option maxRecDepth 100000 in
theorem lifted (os : Os) (started : os.Started) (H : Type) (enc : TypeId × Value → H) :
    ReturnsInHanded {} Tryd.checked os 6 .any (fun w args => (Rows.textsFormsSpec.pre enc Tryd.prog Tryd.f6 [] false w args ∧ laidMetH Tryd.prog laid3 w) ∧ sizedMet enc Tryd.prog Tryd.f6 (OpenSpec.ofChange Rows.textsFormsSpec) false w args)
      (Rows.textsFormsSpec.post enc Tryd.prog Tryd.f6 false true false false) := by
  refine returns_shaped (C := Tryd.checked) (X := fun w _ => laidMetH Tryd.prog laid3 w) (fun _ _ _ hh h => h.of_heap hh) own started (by kernel_rfl) Tryd.func6
    (ChangeSpec.witness_shaped (enc := enc) (C := Tryd.checked) (os := os) (X := fun w _ => laidMetH Tryd.prog laid3 w) false (World.doorLaid Tryd.prog 2000 os) #[.agg #[.int .u8 0, .int .u8 0, .int .u8 0, .int .u8 0, .int .u8 0, .int .u8 0, .int .u8 0, .int .u8 0, .int .u8 0, .int .u8 0, .int .u8 0, .int .u8 0, .int .u8 0, .int .u8 0, .int .u8 0, .int .u8 0], .int .u8 0, .agg #[.int .u8 0, .int .u8 0, .int .u8 0]] 8 rfl (World.shaped_of_RefB (by kernel_rfl) (by kernel_rfl)) (by kernel_rfl) (by kernel_rfl) (by kernel_rfl) (door_met os _)) ?_
  intro W base args ds gs before hval0 hW hL hSh
  have hval : ∀ (j : Nat) t v, Tryd.f6.params[j]? = some t → args[j]? = some v → Value.okWide Tryd.prog W .any base t v := hval0
  have hW' := hW
  obtain ⟨p, q, hA0, hV, rfl, _, _⟩ := hW
  have hA : DataW.TrodAll enc Tryd.prog W 0 (fun _ => true) true Tryd.f6.params.toList args.toList ds p := hA0
  rw [Tryd.params6] at hA hval
  obtain ⟨v0, vs0, d0, ds0, p0, q0, hargs, rfl, rfl, h0, r0⟩ := trodAll_cons hA
  obtain ⟨v1, vs1, d1, ds1, p1, q1, rfl, rfl, rfl, h1, r1⟩ := trodAll_cons r0
  obtain ⟨v2, vs2, d2, ds2, p2, q2, rfl, rfl, rfl, h2, r2⟩ := trodAll_cons r1
  obtain ⟨rfl, rfl, rfl⟩ := trodAll_nil r2
  obtain rfl : args = #[v0, v1, v2] := by cases args; simp_all
  obtain ⟨rfl, rfl⟩ := trodVars_none hV
  have hk := tw_of hL hSh
  obtain ⟨xs, rfl, hx⟩ := open_addr (hval 0 _ _ rfl rfl) h0
  obtain ⟨c, rfl, hc⟩ := open_byte (hval 1 _ _ rfl rfl) h1
  obtain ⟨zs, z0, z1, z2, rfl, hz, hz0, hz1, hz2⟩ := open_three (hval 2 _ _ rfl rfl) h2
  have hw : Calls Tryd.prog 6 #[av xs, .int .u8 c, .agg (bv zs).toArray] W fun e w' => e = .returned (.bool true) ∧ Below W.heap.size W w' := by
    exact walk xs zs c z0 z1 z2 W hx hc hz hz0 hz1 hz2 hk
  refine hw.mono fun e W' ⟨he, hb⟩ => ?_
  subst he
  exact ⟨_, rfl, law_post (by kernel_rfl) rfl rfl Tryd.underlying4 readable hW' rfl hb⟩

/-- TextsForms: the row, as given -/
theorem row : Rows.TextsFormsSaid :=
  OpenClaim.holds_of_wide 6 Tryd.f6 rfl rfl rfl rfl rfl rfl rfl ⟨rfl, rfl, rfl, rfl, rfl⟩ rfl rfl rfl rfl rfl (by kernel_rfl) Tryd.func6 (by kernel_rfl)
    (of_decide_eq_true (by kernel_rfl)) (by unfold Func.isWrapper; first | (rw [if_pos (by decide +kernel)]; kernel_rfl) | (rw [if_neg (by decide +kernel)]; exact ⟨rfl, rfl⟩))
    (fun os started H enc _ => lifted os started H enc)

/-- TextsForms: the tied card, as given -/
theorem holds : Rows.TextsFormsCardSaid :=
  Claim7.holds_tied_plain_at .later [] [.data, .data, .data] true Rows.textsFormsCard.stood.harness false
    row (fun _ h => by cases h) (by kernel_rfl) (fun _ h => by cases h) textsForms_row_tie rfl ⟨rfl, rfl⟩ (by kernel_rfl) rfl
    (fun f fn hf hfn => by
      obtain rfl : f = 6 := Option.some.inj ((show Tryd.prog.funcNamed "sojourner/sojournerlaw07.TextsForms" = some 6 by kernel_rfl).symm.trans hf) |>.symm
      obtain rfl : fn = Tryd.f6 := (Option.some.inj (Tryd.func6.symm.trans hfn)).symm
      exact ⟨by kernel_rfl, fun j t ht => by
        rw [Tryd.params6] at ht
        have hm : t ∈ [23, 5, 33] := by simpa using Array.mem_of_getElem? ht
        have hall : ([23, 5, 33].all fun u => !Tryd.prog.wantsStandIn u) = true := by kernel_rfl
        exact (show Tryd.prog.wantsStandIn t = false by simpa using List.all_eq_true.1 hall t hm)⟩)
    (by kernel_rfl)

#print axioms holds
end Go.Proofs.YtfaaogidbpfelaaDoor.textsForms
