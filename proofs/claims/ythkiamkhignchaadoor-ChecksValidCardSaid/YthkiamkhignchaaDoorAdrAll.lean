/-
  Texts put together (AdrP, AdrM, AdrA, AdrB, AdrC, AdrD, AdrE, AdrF, AdrL, AdrG, AdrQ, AdrR, AdrV).
  Conditions: as each part says.
-/
import Derived.Test.YthkiamkhignchaaDoorNum
import Derived.Lib.BitFns
import Derived.Laws.Entries
import Derived.Test.YthkiamkhignchaaDoorMemB
import Derived.Test.YthkiamkhignchaaDoorStep
import Derived.Deep.MidRow
import Derived.ChangeKeysEq
import Derived.StillTailTactics
import Derived.Deep.RegionHeld3
import Derived.Deep.RegionLaw
import Derived.BigRegion
import Derived.Test.YthkiamkhignchaaDoorOpenB
import Derived.LaidMore
import Derived.Stop.Joined
/-
  Addresses as sixteen whole numbers: their bits, how many two of them have in common, what is masked.
  Conditions: none.
-/
namespace Go.Proofs.YthkiamkhignchaaDoor.Ad

/-- an address: sixteen bytes -/
structure Ok (xs : List Int) : Prop where
  len : xs.length = 16
  byt : Byt xs

/-- a byte's bits, from the highest one on -/
def bit8 (x : Int) (j : Nat) : Int := x / 2 ^ (7 - j) % 2
/-- an address's bits -/
def bit (xs : List Int) (i : Nat) : Int := bit8 (xs.getD (i / 8) 0) (i % 8)

def comAt (xs ys : List Int) : Nat → Nat → Nat
  | 0, i => i
  | f + 1, i => if bit xs i = bit ys i then comAt xs ys f (i + 1) else i
/-- how many bits both have alike -/
def com (xs ys : List Int) : Nat := comAt xs ys 128 0

theorem comAt_of {xs ys : List Int} {n : Nat} : ∀ (f i : Nat), i ≤ n → n ≤ i + f → (∀ j, i ≤ j → j < n → bit xs j = bit ys j) → (n < i + f → bit xs n ≠ bit ys n) → comAt xs ys f i = n
  | 0, i, h1, h2, _, _ => by unfold comAt; omega
  | f + 1, i, h1, h2, h3, h4 => by
    unfold comAt
    by_cases e : i = n
    · subst e
      rw [if_neg (h4 (by omega))]
    · rw [if_pos (h3 i (Nat.le_refl _) (by omega))]
      exact comAt_of f (i + 1) (by omega) (by omega) (fun j hj hn => h3 j (by omega) hn) (fun h => h4 (by omega))
theorem com_of {xs ys : List Int} {n : Nat} (h2 : n ≤ 128) (h3 : ∀ j, j < n → bit xs j = bit ys j) (h4 : n < 128 → bit xs n ≠ bit ys n) : com xs ys = n :=
  comAt_of 128 0 (Nat.zero_le _) (by omega) (fun j _ hj => h3 j hj) (fun h => h4 (by omega))
theorem comAt_spec (xs ys : List Int) : ∀ (f i : Nat), i ≤ comAt xs ys f i ∧ comAt xs ys f i ≤ i + f ∧ (∀ j, i ≤ j → j < comAt xs ys f i → bit xs j = bit ys j) ∧ (comAt xs ys f i < i + f → bit xs (comAt xs ys f i) ≠ bit ys (comAt xs ys f i))
  | 0, i => by unfold comAt; exact ⟨Nat.le_refl _, Nat.le_refl _, fun j h1 h2 => by omega, fun h => by omega⟩
  | f + 1, i => by
    unfold comAt
    split
    · rename_i h
      obtain ⟨a, b, c, d⟩ := comAt_spec xs ys f (i + 1)
      refine ⟨by omega, by omega, fun j h1 h2 => ?_, fun h2 => d (by omega)⟩
      by_cases e : j = i
      · subst e; exact h
      · exact c j (by omega) h2
    · rename_i h
      exact ⟨Nat.le_refl _, by omega, fun j h1 h2 => by omega, fun _ => h⟩
theorem com_le (xs ys : List Int) : com xs ys ≤ 128 := by have := (comAt_spec xs ys 128 0).2.1; unfold com; omega
theorem com_same (xs ys : List Int) {j : Nat} (h : j < com xs ys) : bit xs j = bit ys j := (comAt_spec xs ys 128 0).2.2.1 j (Nat.zero_le _) h
theorem com_ne (xs ys : List Int) (h : com xs ys < 128) : bit xs (com xs ys) ≠ bit ys (com xs ys) := (comAt_spec xs ys 128 0).2.2.2 (by unfold com at h; omega)
theorem com_comm (xs ys : List Int) : com ys xs = com xs ys :=
  com_of (com_le _ _) (fun _ hj => (com_same xs ys hj).symm) (fun h e => com_ne xs ys h e.symm)
theorem le_com {xs ys : List Int} {n : Nat} (hn : n ≤ 128) : n ≤ com xs ys ↔ ∀ j, j < n → bit xs j = bit ys j := by
  constructor
  · intro h _ hj
    exact com_same xs ys (by omega)
  · intro h
    by_cases e : n ≤ com xs ys
    · exact e
    · exact absurd (h _ (by omega)) (com_ne xs ys (by have := com_le xs ys; omega))

theorem byte_bits {x : Int} (h : 0 ≤ x ∧ x ≤ 255) : x = 128 * bit8 x 0 + 64 * bit8 x 1 + 32 * bit8 x 2 + 16 * bit8 x 3 + 8 * bit8 x 4 + 4 * bit8 x 5 + 2 * bit8 x 6 + bit8 x 7 := by
  unfold bit8
  simp only [Nat.sub_zero, Nat.reduceSub, Int.reducePow]
  omega
theorem byte_ext {x y : Int} (hx : 0 ≤ x ∧ x ≤ 255) (hy : 0 ≤ y ∧ y ≤ 255) (h : ∀ j, j < 8 → bit8 x j = bit8 y j) : x = y := by
  rw [byte_bits hx, byte_bits hy, h 0 (by omega), h 1 (by omega), h 2 (by omega), h 3 (by omega), h 4 (by omega), h 5 (by omega), h 6 (by omega), h 7 (by omega)]

theorem getD_byt {xs : List Int} (h : Byt xs) (i : Nat) : 0 ≤ xs.getD i 0 ∧ xs.getD i 0 ≤ 255 := by
  rw [List.getD_eq_getElem?_getD]
  cases e : xs[i]? with
  | none => simp
  | some z => simpa using h z (List.mem_of_getElem? e)
theorem Ok.at {xs : List Int} (h : Ok xs) (i : Nat) : 0 ≤ xs.getD i 0 ∧ xs.getD i 0 ≤ 255 := getD_byt h.byt i

/-- addresses with the same bits are the same -/
theorem ext {xs ys : List Int} (hx : Ok xs) (hy : Ok ys) (h : ∀ j, j < 128 → bit xs j = bit ys j) : xs = ys := by
  apply List.ext_getElem?
  intro i
  by_cases hi : i < 16
  · have e : xs.getD i 0 = ys.getD i 0 := byte_ext (hx.at i) (hy.at i) (fun j hj => by
      have := h (8 * i + j) (by omega)
      unfold bit at this
      rw [show (8 * i + j) / 8 = i by omega, show (8 * i + j) % 8 = j by omega] at this
      exact this)
    have h1 := hx.len
    have h2 := hy.len
    rw [List.getElem?_eq_getElem (by omega), List.getElem?_eq_getElem (by omega)]
    simpa [List.getD, List.getElem?_eq_getElem, h1, h2, hi] using e
  · rw [List.getElem?_eq_none (by have := hx.len; omega), List.getElem?_eq_none (by have := hy.len; omega)]
theorem com_all {xs ys : List Int} (hx : Ok xs) (hy : Ok ys) : com xs ys = 128 ↔ xs = ys := by
  constructor
  · intro h
    exact ext hx hy (fun j hj => com_same xs ys (by omega))
  · rintro rfl
    exact com_of (Nat.le_refl _) (fun _ _ => rfl) (fun h => by omega)

/-- a byte of whose bits the first k are left -/
def mb (x : Int) (k : Nat) : Int := x / 2 ^ (8 - k) * 2 ^ (8 - k)
theorem mb_big (x : Int) {k : Nat} (h : 8 ≤ k) : mb x k = x := by
  unfold mb
  rw [show 8 - k = 0 by omega]
  simp
theorem lt8 {j : Nat} (h : j < 8) : j = 0 ∨ j = 1 ∨ j = 2 ∨ j = 3 ∨ j = 4 ∨ j = 5 ∨ j = 6 ∨ j = 7 := by omega
theorem mb_bit (x : Int) (k : Nat) {j : Nat} (hj : j < 8) : bit8 (mb x k) j = if j < k then bit8 x j else 0 := by
  by_cases hk : 8 ≤ k
  · rw [mb_big x hk, if_pos (by omega)]
  · unfold mb bit8
    rcases lt8 hj with rfl | rfl | rfl | rfl | rfl | rfl | rfl | rfl <;> rcases lt8 (show k < 8 by omega) with rfl | rfl | rfl | rfl | rfl | rfl | rfl | rfl <;> simp <;> omega
theorem mb_byt {x : Int} (h : 0 ≤ x ∧ x ≤ 255) (k : Nat) : 0 ≤ mb x k ∧ mb x k ≤ 255 := by
  by_cases hk : 8 ≤ k
  · rw [mb_big x hk]; exact h
  · unfold mb
    rcases lt8 (show k < 8 by omega) with rfl | rfl | rfl | rfl | rfl | rfl | rfl | rfl <;> simp <;> omega

/-- an address of whose bits the first b are left -/
def msk (xs : List Int) (b : Nat) : List Int := (List.range 16).map fun i => mb (xs.getD i 0) (b - 8 * i)
theorem msk_len (xs : List Int) (b : Nat) : (msk xs b).length = 16 := by simp [msk]
theorem msk_at (xs : List Int) (b : Nat) {i : Nat} (h : i < 16) : (msk xs b).getD i 0 = mb (xs.getD i 0) (b - 8 * i) := by
  simp [msk, List.getD, h]
theorem msk_ok {xs : List Int} (h : Ok xs) (b : Nat) : Ok (msk xs b) := by
  refine ⟨msk_len xs b, fun z hz => ?_⟩
  obtain ⟨i, _, rfl⟩ := List.mem_map.1 hz
  exact mb_byt (h.at i) _
theorem msk_bit {xs : List Int} (_ : Ok xs) (b : Nat) {j : Nat} (hj : j < 128) : bit (msk xs b) j = if j < b then bit xs j else 0 := by
  unfold bit
  rw [msk_at xs b (show j / 8 < 16 by omega), mb_bit _ _ (show j % 8 < 8 by omega)]
  by_cases hb : j < b
  · rw [if_pos hb, if_pos (by omega)]
  · rw [if_neg hb, if_neg (by omega)]
theorem msk_min {xs : List Int} (h : Ok xs) (b : Nat) : msk xs (min b 128) = msk xs b :=
  ext (msk_ok h _) (msk_ok h _) (fun j hj => by
    rw [msk_bit h _ hj, msk_bit h _ hj]
    by_cases hb : j < b
    · rw [if_pos hb, if_pos (by omega)]
    · rw [if_neg hb, if_neg (by omega)])
/-- who has the first bits in common is the same, masked by them -/
theorem within_iff {xs ys : List Int} (hx : Ok xs) (hy : Ok ys) (b : Nat) : min b 128 ≤ com xs ys ↔ msk xs b = msk ys b := by
  rw [le_com (by omega)]
  constructor
  · intro h
    refine ext (msk_ok hx _) (msk_ok hy _) (fun j hj => ?_)
    rw [msk_bit hx _ hj, msk_bit hy _ hj]
    by_cases hb : j < b
    · rw [if_pos hb, if_pos hb]; exact h j (by omega)
    · rw [if_neg hb, if_neg hb]
  · intro h j hj
    have h1 := msk_bit hx b (show j < 128 by omega)
    have h2 := msk_bit hy b (show j < 128 by omega)
    rw [if_pos (by omega)] at h1 h2
    rw [← h1, ← h2, h]
theorem msk_msk {xs : List Int} (hx : Ok xs) (a b : Nat) : msk (msk xs a) b = msk xs (min a b) :=
  ext (msk_ok (msk_ok hx _) _) (msk_ok hx _) (fun j hj => by
    rw [msk_bit (msk_ok hx _) _ hj, msk_bit hx _ hj, msk_bit hx _ hj]
    by_cases ha : j < a <;> by_cases hb : j < b <;> simp [ha, hb] <;> omega)
theorem com_msk {xs : List Int} (hx : Ok xs) (a : Nat) : min a 128 ≤ com xs (msk xs a) := by
  rw [le_com (by omega)]
  intro j hj
  rw [msk_bit hx _ (by omega), if_pos (by omega)]
theorem msk_all {xs : List Int} (hx : Ok xs) : msk xs 128 = xs :=
  ext (msk_ok hx _) hx (fun j hj => by rw [msk_bit hx _ hj, if_pos hj])
def nil : List Int := [0, 0, 0, 0, 0, 0, 0, 0, 0, 0, 0, 0, 0, 0, 0, 0]
theorem msk_none {xs : List Int} (hx : Ok xs) : msk xs 0 = nil := by
  have h : ∀ i, mb (xs.getD i 0) 0 = 0 := fun i => by
    have := hx.at i
    unfold mb
    simp only [Nat.sub_zero, Int.reducePow]
    omega
  simp only [msk, Nat.zero_sub, h]
  rfl

/-- a prefix, and an id -/
def ofp (ps id : List Int) : List Int := ps.take 8 ++ id
theorem ofp_ok {ps id : List Int} (hp : Ok ps) (h8 : id.length = 8) (hb : Byt id) : Ok (ofp ps id) := by
  refine ⟨by simp [ofp, hp.len, h8], fun z hz => ?_⟩
  rcases List.mem_append.1 hz with h | h
  · exact hp.byt z (List.mem_of_mem_take h)
  · exact hb z h
theorem ofp_at {ps id : List Int} (hp : Ok ps) {i : Nat} (h : i < 8) : (ofp ps id).getD i 0 = ps.getD i 0 := by
  have := hp.len
  simp [ofp, List.getD, List.getElem?_append, h, this]
  rw [List.getElem?_eq_getElem (by omega)]
  rfl
theorem ofp_id {ps id : List Int} (hp : Ok ps) (i : Nat) : (ofp ps id).getD (8 + i) 0 = id.getD i 0 := by
  have := hp.len
  simp [ofp, List.getD, List.getElem?_append, this]
  rw [if_neg (by omega)]
theorem ofp_bit {ps id : List Int} (hp : Ok ps) {j : Nat} (h : j < 64) : bit (ofp ps id) j = bit ps j := by
  unfold bit
  rw [ofp_at hp (by omega)]
theorem com_ofp {ps id : List Int} (hp : Ok ps) : 64 ≤ com (ofp ps id) ps := by
  rw [le_com (by omega)]
  intro j hj
  exact ofp_bit hp hj
theorem ofp_eq {ps qs id : List Int} (hp : Ok ps) (hq : Ok qs) (h8 : id.length = 8) (hb : Byt id) : ofp ps id = ofp qs id ↔ 64 ≤ com ps qs := by
  rw [le_com (by omega)]
  constructor
  · intro h j hj
    rw [← ofp_bit hp (id := id) hj, ← ofp_bit hq (id := id) hj, h]
  · intro h
    refine ext (ofp_ok hp h8 hb) (ofp_ok hq h8 hb) (fun j hj => ?_)
    by_cases h64 : j < 64
    · rw [ofp_bit hp h64, ofp_bit hq h64]; exact h j h64
    · unfold bit
      obtain ⟨i, hi⟩ : ∃ i, j / 8 = 8 + i := ⟨j / 8 - 8, by omega⟩
      rw [hi, ofp_id hp, ofp_id hq]

/-- the solicited address -/
def sol (xs : List Int) : List Int := [255, 2, 0, 0, 0, 0, 0, 0, 0, 0, 0, 1, 255, xs.getD 13 0, xs.getD 14 0, xs.getD 15 0]
theorem sol_ok {xs : List Int} (h : Ok xs) : Ok (sol xs) := by
  refine ⟨rfl, fun z hz => ?_⟩
  have a := h.at 13
  have b := h.at 14
  have c := h.at 15
  simp only [sol, List.mem_cons, List.not_mem_nil, or_false] at hz
  omega

/-! Bytes -/
theorem fin256 {p : Int → Prop} (h : ∀ k : Fin 256, p ((k.1 : Nat) : Int)) {x : Int} (hx : 0 ≤ x ∧ x ≤ 255) : p x := by
  obtain ⟨k, rfl⟩ := Int.eq_ofNat_of_zero_le hx.1
  exact h ⟨k, by omega⟩
theorem and_high {x : Int} (hx : 0 ≤ x ∧ x ≤ 255) : bits .and .u8 x 192 = x / 64 * 64 :=
  fin256 (p := fun x => bits .and .u8 x 192 = x / 64 * 64) (by decide +kernel) hx
theorem and_low {x : Int} (hx : 0 ≤ x ∧ x ≤ 255) : bits .and .u8 x 15 = x % 16 :=
  fin256 (p := fun x => bits .and .u8 x 15 = x % 16) (by decide +kernel) hx
theorem and_one {x : Int} (hx : 0 ≤ x ∧ x ≤ 255) : bits .and .u8 x 1 = x % 2 :=
  fin256 (p := fun x => bits .and .u8 x 1 = x % 2) (by decide +kernel) hx
theorem clear_low {x : Int} (hx : 0 ≤ x ∧ x ≤ 255) {k : Nat} (hk : k ≤ 8) : bits .andNot .u8 x (255 / 2 ^ k) = mb x k :=
  fin256 (p := fun x => ∀ k : Fin 9, bits .andNot .u8 x (255 / 2 ^ k.1) = mb x k.1) (by decide +kernel) hx ⟨k, by omega⟩
theorem set_bit {x : Int} (hx : 0 ≤ x ∧ x ≤ 255) {k : Nat} (hk : k < 8) : bits .or .u8 (mb x k) (bit8 x k * 2 ^ (7 - k)) = mb x (k + 1) :=
  fin256 (p := fun x => ∀ k : Fin 8, bits .or .u8 (mb x k.1) (bit8 x k.1 * 2 ^ (7 - k.1)) = mb x (k.1 + 1)) (by decide +kernel) hx ⟨k, hk⟩
/-- how many bits two bytes have in common -/
theorem lead {x y : Int} (hx : 0 ≤ x ∧ x ≤ 255) (hy : 0 ≤ y ∧ y ≤ 255) (h : x ≠ y) : ∃ n : Nat, n < 8 ∧ (8 - (Lib.bitLen (bits .xor .u8 x y).toNat : Int)) = n ∧ (∀ j, j < n → bit8 x j = bit8 y j) ∧ bit8 x n ≠ bit8 y n := by
  have hz : ∀ z : Fin 256, z.1 ≠ 0 → Lib.bitLen z.1 ≤ 8 ∧ 1 ≤ Lib.bitLen z.1 ∧ (∀ j : Fin 8, j.1 < 8 - Lib.bitLen z.1 → z.1 / 2 ^ (7 - j.1) % 2 = 0) ∧ z.1 / 2 ^ (7 - (8 - Lib.bitLen z.1)) % 2 = 1 := by decide +kernel
  obtain ⟨a, rfl⟩ := Int.eq_ofNat_of_zero_le hx.1
  obtain ⟨b, rfl⟩ := Int.eq_ofNat_of_zero_le hy.1
  have ha : a < 256 := by omega
  have hb : b < 256 := by omega
  have hw : a ^^^ b < 256 := Nat.xor_lt_two_pow (n := 8) ha hb
  have e : bits .xor .u8 (a : Int) (b : Int) = ((a ^^^ b : Nat) : Int) := by
    show IntKind.u8.wrap (((BitVec.ofInt 8 (a : Int) ^^^ BitVec.ofInt 8 (b : Int)).toNat : Nat) : Int) = _
    rw [BitVec.toNat_xor, BitVec.toNat_ofInt, BitVec.toNat_ofInt]
    rw [show ((a : Int) % (2 ^ 8 : Nat)).toNat = a by omega, show ((b : Int) % (2 ^ 8 : Nat)).toNat = b by omega, IntKind.wrap_u8]
    omega
  rw [e, Int.toNat_natCast]
  have hne : a ^^^ b ≠ 0 := fun h0 => h (by
    have h1 : (a ^^^ b) ^^^ b = a := by rw [Nat.xor_assoc, Nat.xor_self, Nat.xor_zero]
    rw [h0, Nat.zero_xor] at h1
    rw [h1])
  obtain ⟨h1, h2, h3, h4⟩ := hz ⟨a ^^^ b, hw⟩ hne
  simp only at h1 h2 h3 h4
  have hx : ∀ k, ((a ^^^ b) / 2 ^ k % 2 = 1) ↔ a / 2 ^ k % 2 ≠ b / 2 ^ k % 2 := fun k => by
    have := Nat.testBit_xor a b k
    simp only [Nat.testBit_eq_decide_div_mod_eq] at this
    have h5 := Nat.mod_two_eq_zero_or_one (a / 2 ^ k)
    have h6 := Nat.mod_two_eq_zero_or_one (b / 2 ^ k)
    rcases h5 with h5 | h5 <;> rcases h6 with h6 | h6 <;> simp [h5, h6] at this ⊢ <;> exact this
  have hc : ∀ (c k : Nat), ((c : Int) / 2 ^ k % 2) = ((c / 2 ^ k % 2 : Nat) : Int) := fun c k => by simp
  refine ⟨8 - Lib.bitLen (a ^^^ b), by omega, by omega, fun j hj => ?_, ?_⟩
  · have h5 := h3 ⟨j, by omega⟩ hj
    simp only at h5
    have h6 := hx (7 - j)
    unfold bit8
    rw [hc, hc]
    by_cases h7 : a / 2 ^ (7 - j) % 2 = b / 2 ^ (7 - j) % 2
    · rw [h7]
    · have := h6.2 h7
      omega
  · have h6 := (hx _).1 h4
    unfold bit8
    rw [hc, hc]
    omega

/-- the loopback -/
def loop : List Int := [0, 0, 0, 0, 0, 0, 0, 0, 0, 0, 0, 0, 0, 0, 0, 1]
/-- the kinds -/
def scope (xs : List Int) : Int :=
  if xs.getD 0 0 = 255 then xs.getD 1 0 % 16
  else if xs = loop ∨ (xs.getD 0 0 = 254 ∧ xs.getD 1 0 / 64 = 2) then 2
  else if xs = nil then 0 else 14

end Go.Proofs.YthkiamkhignchaaDoor.Ad

/-
  Addresses in memory: an array of sixteen bytes by value, loaded, stored, compared; the table of the known ones.
  Conditions: none.
-/
namespace Go.Proofs.YthkiamkhignchaaDoor.Ad
open Go.RowKit

/-- an address by value -/
abbrev av (xs : List Int) : Value := .agg (bv xs).toArray

theorem size16 : (Tryd.prog.info? 23).map (·.size) = some 16 := by kernel_rfl
theorem sizeOk {xs : List Int} (h : xs.length = 16) : (Tryd.prog.info? 23).map (·.size) = some (bv xs).length := by rw [size16, bv_length, h]

theorem rng_row {w : World} {g : Nat} {t : TypeId} {cs : List Value} (h : Row w g t cs.toArray) : w.rangeAt g 0 cs := fun j v hv => by
  rw [h.cell, Nat.zero_add]
  simpa using hv
theorem rng_keep {w w' : World} {g o : Nat} {cs : List Value} (h : w.rangeAt g o cs) (hb : Below w.heap.size w w') : w'.rangeAt g o cs := fun j v hv => by
  have hc := h j v hv
  rw [hb.cell (block_lt_of_cell hc), hc]
theorem rng_cell {w : World} {g o : Nat} {xs : List Int} (h : w.rangeAt g o (bv xs)) {j : Nat} (hj : j < xs.length) : w.cell? ⟨g, o + j, none⟩ = some (.int .u8 (xs.getD j 0)) := h j _ (bv_get xs j hj)
theorem rng_at {w : World} {g : Nat} {xs : List Int} (h : w.rangeAt g 0 (bv xs)) {j : Nat} (hj : j < xs.length) : w.cell? ⟨g, j, none⟩ = some (.int .u8 (xs.getD j 0)) := by
  have := rng_cell h hj
  rwa [Nat.zero_add] at this

theorem load_rng {w : World} {g o : Nat} {xs : List Int} (h : w.rangeAt g o (bv xs)) (hx : xs.length = 16) :
    (Instr.loadAt 23 (.pointer (some ⟨g, o, none⟩))).run Tryd.prog w = .ok (av xs) w :=
  run_loadAt_mid w g o 23 (bv xs) _ h Tryd.underlying23 rfl (sizeOk hx)
theorem store_row {w : World} {g : Nat} {t : TypeId} {cs : Array Value} {xs : List Int} (h : Row w g t cs) (hc : cs.size = 16) (hx : xs.length = 16) :
    (Instr.storeAt 23 (.pointer (some ⟨g, 0, none⟩)) (av xs)).run Tryd.prog w = .ok () (w.setRow g (bv xs).toArray) := by
  simp only [Instr.storeAt, Instr.sureAddr, Sem.run_bind, Sem.run_pure, Result.andThen]
  exact run_storeVar_row _ _ _ _ _ _ h (by rw [size16]; simp [bv, hx]) (by simp [bv, hx, hc]) (by simp [bv, Value.oneCell'])

/-- two addresses, compared -/
theorem items_eq (d : Nat) (w : World) (xs ys : List Int) (hc : Tryd.prog.cellsOf 5 = 1) : ∀ (n k : Nat), xs.length = k + n → ys.length = k + n →
    (Op.eqItems (d + 1) 5 1 (bv xs).toArray (bv ys).toArray (List.range' k n)).run Tryd.prog w = .ok (decide (xs.drop k = ys.drop k)) w
  | 0, k, hx, hy => by
    rw [List.drop_of_length_le (by omega), List.drop_of_length_le (by omega)]
    simp [Op.eqItems]
  | n + 1, k, hx, hy => by
    have px : (part 5 (bv xs).toArray (k * 1)).run Tryd.prog w = .ok (.int .u8 (xs.getD k 0)) w := run_part_plain w (by unfold Program.plainKey; rw [Tryd.underlying5]) (by rw [Nat.mul_one]; simpa using bv_get xs k (by omega))
    have py : (part 5 (bv ys).toArray (k * 1)).run Tryd.prog w = .ok (.int .u8 (ys.getD k 0)) w := run_part_plain w (by unfold Program.plainKey; rw [Tryd.underlying5]) (by rw [Nat.mul_one]; simpa using bv_get ys k (by omega))
    rw [List.range'_succ]
    simp only [Op.eqItems, Sem.run_bind, px, py, Result.andThen_ok, run_equalIn_int w d 5 .u8 .u8 _ _ Tryd.underlying5]
    have ex : xs.drop k = xs.getD k 0 :: xs.drop (k + 1) := by rw [List.drop_eq_getElem_cons (by omega)]; simp [List.getD, show k < xs.length by omega]
    have ey : ys.drop k = ys.getD k 0 :: ys.drop (k + 1) := by rw [List.drop_eq_getElem_cons (by omega)]; simp [List.getD, show k < ys.length by omega]
    by_cases e : xs.getD k 0 = ys.getD k 0
    · rw [e]
      simp only [beq_self_eq_true, Bool.not_true, Bool.false_eq_true, if_false]
      rw [items_eq d w xs ys hc n (k + 1) (by omega) (by omega), ex, ey, e]
      simp
    · have : (xs.getD k 0 == ys.getD k 0) = false := by simpa using e
      rw [this]
      simp only [Bool.not_false, if_true, Sem.run_pure]
      rw [ex, ey]
      simp only [List.cons.injEq, e, false_and, decide_false]
theorem eq_any (w : World) {xs ys : List Int} (hx : xs.length = 16) (hy : ys.length = 16) : (Op.equal 23 (av xs) (av ys)).run Tryd.prog w = .ok (decide (xs = ys)) w := by
  obtain ⟨i, hi, _, _, _⟩ := info_parts info_u8
  have hc : Tryd.prog.cellsOf 5 = 1 := by kernel_rfl
  have h := run_equalIn_array (P := Tryd.prog) w 9999 (bv xs).toArray (bv ys).toArray Tryd.underlying23 hi
  rw [hc, List.range_eq_range', items_eq 9998 w xs ys hc 16 0 (by omega) (by omega)] at h
  simpa [Op.equal, Op.maxDepth] using h
theorem eql_any (w : World) {xs ys : List Int} (hx : xs.length = 16) (hy : ys.length = 16) {z : Bool} (hz : decide (xs = ys) = z) : (binOp .eql 23 (av xs) (av ys)).run Tryd.prog w = .ok (.bool z) w := by
  simp [binOp, eq_any w hx hy, hz]
theorem neq_any (w : World) {xs ys : List Int} (hx : xs.length = 16) (hy : ys.length = 16) {z : Bool} (hz : decide (xs = ys) = z) : (binOp .neq 23 (av xs) (av ys)).run Tryd.prog w = .ok (.bool (!z)) w := by
  simp [binOp, eq_any w hx hy, hz]

/-- the table -/
def known : List Int := [0, 0, 0, 0, 0, 0, 0, 0, 0, 0, 0, 0, 0, 0, 0, 0,
  0, 0, 0, 0, 0, 0, 0, 0, 0, 0, 0, 0, 0, 0, 0, 1,
  255, 2, 0, 0, 0, 0, 0, 0, 0, 0, 0, 0, 0, 0, 0, 1,
  255, 2, 0, 0, 0, 0, 0, 0, 0, 0, 0, 0, 0, 0, 0, 2,
  255, 2, 0, 0, 0, 0, 0, 0, 0, 0, 0, 0, 0, 0, 0, 22,
  255, 2, 0, 0, 0, 0, 0, 0, 0, 0, 0, 0, 0, 1, 0, 2]
/-- the k-th known address -/
def kn (k : Nat) : List Int := (known.drop (16 * k)).take 16
theorem kn_len {k : Nat} (h : k < 6) : (kn k).length = 16 := by simp [kn, known]; omega
theorem kn_ok : ∀ k : Fin 6, Ok (kn k.1) := fun k => ⟨kn_len k.2, fun z hz => by
  have h : ∀ z ∈ known, 0 ≤ z ∧ z ≤ 255 := by decide
  exact h z (List.mem_of_mem_drop (List.mem_of_mem_take hz))⟩
/-- the known addresses lie in their table -/
def Knw (w : World) : Prop := w.rangeAt 0 0 (bv known)
theorem Knw.keep {w w' : World} (h : Knw w) (hb : Below w.heap.size w w') : Knw w' := rng_keep h hb
theorem Knw.drew {w : World} (h : Knw w) : Knw w.drew := h
theorem Knw.at {w : World} (h : Knw w) (k : Nat) (hk : k < 6) : w.rangeAt 0 (16 * k) (bv (kn k)) := fun j v hv => by
  have hj : j < 16 := by
    have := (List.getElem?_eq_some_iff.1 hv).1
    rw [bv_length, kn_len hk] at this
    exact this
  have := h (16 * k + j) v (by
    rw [← hv]
    simp [bv, kn, hj])
  rwa [Nat.zero_add] at this
theorem Knw.load {w : World} (h : Knw w) (k o : Nat) (hk : k < 6) (ho : o = 16 * k) : (Instr.loadAt 23 (.pointer (some ⟨0, o, none⟩))).run Tryd.prog w = .ok (av (kn k)) w := by
  subst ho
  exact load_rng (h.at k hk) (kn_len hk)

end Go.Proofs.YthkiamkhignchaaDoor.Ad

/-
  What the functions of addrs that look at single bytes answer, whatever address they are handed.
  Conditions: the known addresses lie in their table.
-/
namespace Go.Proofs.YthkiamkhignchaaDoor.Ad
open Go.RowKit

theorem unspecified_any (w : World) (h : Knw w) : Calls Tryd.prog 19 #[] w fun e w' => e = .returned (av (kn 0)) ∧ Below w.heap.size w w' := by
  go_enter Tryd.func19, Tryd.ntmps19
  obtain ⟨Z, hZ⟩ : ∃ Z : Array Value, Z = #[.int .u8 0, .int .u8 0, .int .u8 0, .int .u8 0, .int .u8 0, .int .u8 0, .int .u8 0, .int .u8 0, .int .u8 0, .int .u8 0, .int .u8 0, .int .u8 0, .int .u8 0, .int .u8 0, .int .u8 0, .int .u8 0] := ⟨_, rfl⟩
  have hs : Z.size = 16 := by rw [hZ]; rfl
  have R := row_new (w := w) (g := w.heap.size) (cs := Z) (t := 23) rfl
  have q := below_new w (.cells Z 23)
  have L := veil ((h.keep q).load 0 0 (by omega) rfl)
  have T := veil (store_row R hs (kn_len (show 0 < 6 by omega)))
  have R' := veil (R.setRow (bv (kn 0)).toArray)
  have q' := veil (below_setRow q w.heap.size (bv (kn 0)).toArray (Nat.le_refl _))
  have hl := sizeOk (kn_len (show 0 < 6 by omega))
  generalize kn 0 = xs at *
  clear R q hs h
  subst hZ
  go_wp2_with (first
    | (refine wpList_load_of rfl _ rfl rfl L.out ?_)
    | (refine wpList_store_of rfl _ _ rfl rfl rfl T.out ?_))
  refine bodyPost_ret (results_cell_row rfl _ _ w.heap.size _ _ (0, 0) _ rfl R'.out Tryd.underlying23 rfl (by simpa using hl)) rfl ?_
  exact ⟨rfl, q'.out⟩

end Go.Proofs.YthkiamkhignchaaDoor.Ad

/-
  What IsMulticast, IsLinkLocal, Scope, Solicited answer, whatever address they are handed.
  Conditions: the known addresses lie in their table.
-/
namespace Go.Proofs.YthkiamkhignchaaDoor.Ad
open Go.RowKit

def mult (xs : List Int) : Bool := decide (xs.getD 0 0 = 255)
def ll (xs : List Int) : Bool := decide (xs.getD 0 0 = 254 ∧ xs.getD 1 0 / 64 = 2)

theorem isMulticast_any (xs : List Int) (w : World) (h : Ok xs) : Calls Tryd.prog 17 #[av xs] w fun e w' => e = .returned (.bool (mult xs)) ∧ Below w.heap.size w w' := by
  have R := rng_row (row_new (w := w) (g := w.heap.size) (cs := (bv xs).toArray) (t := 23) rfl)
  have q := below_new w (.cells (bv xs).toArray 23)
  have c0 := rng_at R (j := 0) (by rw [h.len]; omega)
  have Q := veil q
  have M : Hid (mult xs = decide (xs.getD 0 0 = 255)) := rfl
  generalize xs.getD 0 0 = x0 at *
  generalize mult xs = z at *
  clear R q h
  by_cases hx : x0 = 255
  · have M' := M.out
    rw [decide_eq_true hx] at M'
    subst M' hx
    go_enter Tryd.func17, Tryd.ntmps17
    go_wp2_with fail
    go_ret
    exact ⟨rfl, Q.out⟩
  · have M' := M.out
    rw [decide_eq_false hx] at M'
    subst M'
    go_enter Tryd.func17, Tryd.ntmps17
    go_wp2_with fail
    go_ret
    exact ⟨by simp [hx], Q.out⟩

theorem isLinkLocal_any (xs : List Int) (w : World) (h : Ok xs) : Calls Tryd.prog 39 #[av xs] w fun e w' => e = .returned (.bool (ll xs)) ∧ Below w.heap.size w w' := by
  have R := rng_row (row_new (w := w) (g := w.heap.size) (cs := (bv xs).toArray) (t := 23) rfl)
  have q := below_new w (.cells (bv xs).toArray 23)
  have c0 := rng_at R (j := 0) (by rw [h.len]; omega)
  have c1 := rng_at R (j := 1) (by rw [h.len]; omega)
  have Q := veil q
  have M : Hid (ll xs = decide (xs.getD 0 0 = 254 ∧ xs.getD 1 0 / 64 = 2)) := rfl
  have hb := h.at 1
  have B := veil (and_high hb)
  generalize xs.getD 0 0 = x0 at *
  generalize xs.getD 1 0 = x1 at *
  generalize ll xs = z at *
  have e2 : bits .and .u8 x1 192 = 128 ↔ x1 / 64 = 2 := by rw [B.out]; omega
  clear R q h B
  by_cases hx : x0 = 254
  · subst hx
    by_cases hy : bits .and .u8 x1 192 = 128
    · have M' := M.out
      rw [decide_eq_true ⟨rfl, e2.1 hy⟩] at M'
      subst M'
      clear e2 M
      go_enter Tryd.func39, Tryd.ntmps39
      go_wp2_with fail
      go_ret
      exact ⟨by simp, Q.out⟩
    · have M' := M.out
      rw [decide_eq_false (fun k => hy (e2.2 k.2))] at M'
      subst M'
      clear e2 M
      go_enter Tryd.func39, Tryd.ntmps39
      go_wp2_with fail
      go_ret
      exact ⟨by simp [hy], Q.out⟩
  · have M' := M.out
    rw [decide_eq_false (fun k => hx k.1)] at M'
    subst M'
    clear e2 M
    go_enter Tryd.func39, Tryd.ntmps39
    go_wp2_with fail
    go_ret
    exact ⟨by simp, Q.out⟩

theorem kn1 : kn 1 = loop := rfl
theorem kn0 : kn 0 = nil := rfl
theorem scope_mult {xs : List Int} (h : xs.getD 0 0 = 255) : scope xs = xs.getD 1 0 % 16 := by unfold scope; rw [if_pos h]
theorem scope_link {xs : List Int} (h : xs.getD 0 0 ≠ 255) (k : xs = loop ∨ (xs.getD 0 0 = 254 ∧ xs.getD 1 0 / 64 = 2)) : scope xs = 2 := by unfold scope; rw [if_neg h, if_pos k]
theorem scope_none {xs : List Int} (h : xs = nil) : scope xs = 0 := by subst h; decide
theorem scope_else {xs : List Int} (h : xs.getD 0 0 ≠ 255) (k : ¬ (xs = loop ∨ (xs.getD 0 0 = 254 ∧ xs.getD 1 0 / 64 = 2))) (n : xs ≠ nil) : scope xs = 14 := by unfold scope; rw [if_neg h, if_neg k, if_neg n]

set_option maxHeartbeats 2000000 in
theorem solicited_any (xs : List Int) (w : World) (h : Ok xs) : Calls Tryd.prog 18 #[av xs] w fun e w' => e = .returned (av (sol xs)) ∧ Below w.heap.size w w' := by
  go_enter Tryd.func18, Tryd.ntmps18
  obtain ⟨Z, hZ⟩ : ∃ Z : Array Value, Z = #[.int .u8 0, .int .u8 0, .int .u8 0, .int .u8 0, .int .u8 0, .int .u8 0, .int .u8 0, .int .u8 0, .int .u8 0, .int .u8 0, .int .u8 0, .int .u8 0, .int .u8 0, .int .u8 0, .int .u8 0, .int .u8 0] := ⟨_, rfl⟩
  have hs : Z.size = 16 := by rw [hZ]; rfl
  have q0 := below_new w (.cells (bv xs).toArray 23)
  have r0 := rng_row (row_new (w := w) (g := w.heap.size) (cs := (bv xs).toArray) (t := 23) rfl)
  have z0 : (w.alloc (.cells (bv xs).toArray 23)).heap.size = w.heap.size + 1 := by simp
  obtain ⟨w0, hw0⟩ : ∃ w0, w.alloc (.cells (bv xs).toArray 23) = w0 := ⟨_, rfl⟩
  rw [hw0] at q0 r0 z0
  have q1 := below_new w0 (.cells Z 23)
  have R := row_new (w := w0) (g := w.heap.size + 1) (cs := Z) (t := 23) z0.symm
  have r1 := rng_keep r0 q1
  have Q := q0.trans (q1.mono q0.size)
  have c13 := rng_at r1 (j := 13) (by rw [h.len]; omega)
  have c14 := rng_at r1 (j := 14) (by rw [h.len]; omega)
  have c15 := rng_at r1 (j := 15) (by rw [h.len]; omega)
  have O := sol_ok h
  have T := veil (store_row R hs O.len)
  have R' := veil (R.setRow (bv (sol xs)).toArray)
  have q' := veil (below_setRow Q (w.heap.size + 1) (bv (sol xs)).toArray (by omega))
  have hl := sizeOk O.len
  have B : Hid ((Instr.build 23 #[(0, .int .u8 255), (1, .int .u8 2), (11, .int .u8 1), (12, .int .u8 255), (13, .int .u8 (xs.getD 13 0)), (14, .int .u8 (xs.getD 14 0)), (15, .int .u8 (xs.getD 15 0))]).run Tryd.prog (w0.alloc (.cells Z 23)) = .ok (av (sol xs)) (w0.alloc (.cells Z 23))) := by
    unfold Hid sol
    generalize xs.getD 13 0 = a
    generalize xs.getD 14 0 = b
    generalize xs.getD 15 0 = c
    kernel_rfl
  generalize xs.getD 13 0 = a at *
  generalize xs.getD 14 0 = b at *
  generalize xs.getD 15 0 = c at *
  generalize sol xs = ys at *
  clear R q0 r0 q1 Q hs h O r1
  subst hZ hw0
  go_wp2_with (first
    | (refine wpList_build_of rfl _ _ rfl _ (by simp [Act.eval]) B.out ?_)
    | (refine wpList_store_of rfl _ _ rfl rfl rfl T.out ?_))
  refine bodyPost_ret (results_cell_row rfl _ _ (w.heap.size + 1) _ _ (0, 0) _ rfl R'.out Tryd.underlying23 rfl (by simpa using hl)) rfl ?_
  exact ⟨rfl, q'.out⟩

end Go.Proofs.YthkiamkhignchaaDoor.Ad

/-
  What Common answers, whatever two addresses it is handed.
  Conditions: none.
-/
namespace Go.Proofs.YthkiamkhignchaaDoor.Ad
open Go.RowKit

/-- a callee that leaves the world as it is, in a region behind another one that draws its order -/
theorem quiet_add {P : Program} {f : FuncId} {args : Array Value} {w : World} {a n : Nat} {v : Value} (h : Calls P f args (w.drewN (a + n)) fun e w' => e = .returned v ∧ w.drewN (a + n) = w') :
    Calls P f args (w.drewN (a + n)) fun e w'' => e = .returned v ∧ ∃ m, w'' = w.drewN (a + m) := h.mono fun _ _ ⟨he, hm⟩ => ⟨he, n, hm.symm⟩

theorem bit_at (xs : List Int) (i j : Nat) (h : j < 8) : bit xs (8 * i + j) = bit8 (xs.getD i 0) j := by
  unfold bit
  rw [show (8 * i + j) / 8 = i by omega, show (8 * i + j) % 8 = j by omega]
/-- bytes alike up to here -/
theorem same_upto {xs ys : List Int} {i : Nat} (h : ∀ k, k < i → xs.getD k 0 = ys.getD k 0) {j : Nat} (hj : j < 8 * i) : bit xs j = bit ys j := by
  unfold bit
  rw [h (j / 8) (by omega)]
theorem com_byte {xs ys : List Int} (hx : Ok xs) (hy : Ok ys) {i : Nat} (hi : i < 16) (h : ∀ k, k < i → xs.getD k 0 = ys.getD k 0) (hne : xs.getD i 0 ≠ ys.getD i 0) :
    ∃ n : Nat, n < 8 ∧ (8 - (Lib.bitLen (bits .xor .u8 (xs.getD i 0) (ys.getD i 0)).toNat : Int)) = n ∧ com xs ys = 8 * i + n := by
  obtain ⟨n, h1, h2, h3, h4⟩ := lead (hx.at i) (hy.at i) hne
  refine ⟨n, h1, h2, com_of (by omega) (fun j hj => ?_) (fun _ => ?_)⟩
  · by_cases hk : j < 8 * i
    · exact same_upto h hk
    · obtain ⟨k, rfl⟩ : ∃ k, j = 8 * i + k := ⟨j - 8 * i, by omega⟩
      rw [bit_at _ _ _ (by omega), bit_at _ _ _ (by omega)]
      exact h3 k (by omega)
  · rw [bit_at _ _ _ h1, bit_at _ _ _ h1]
    exact h4
theorem com_end {xs ys : List Int} (h : ∀ k, k < 16 → xs.getD k 0 = ys.getD k 0) : com xs ys = 128 :=
  com_of (Nat.le_refl _) (fun _ hj => same_upto h (by omega)) (fun hlt => by omega)
theorem xor_byt (x y : Int) : 0 ≤ bits .xor .u8 x y ∧ bits .xor .u8 x y ≤ 255 := by
  unfold bits
  have := IntKind.wrap_u8 (((BitVec.ofInt IntKind.u8.bits x ^^^ BitVec.ofInt IntKind.u8.bits y).toNat : Nat) : Int)
  simp only
  rw [this]
  omega

end Go.Proofs.YthkiamkhignchaaDoor.Ad

/-
  What Masked answers, whatever address and number of bits it is handed.
  Conditions: none.
-/
namespace Go.Proofs.YthkiamkhignchaaDoor.Ad
open Go.RowKit

/-- the first j bytes are masked -/
def mpart (xs : List Int) (b j : Nat) : List Int := (msk xs b).take j ++ xs.drop j
theorem mpart_len {xs : List Int} (h : xs.length = 16) (b : Nat) {j : Nat} (hj : j ≤ 16) : (mpart xs b j).length = 16 := by simp [mpart, msk_len, h]; omega
theorem mpart_at (xs : List Int) (b : Nat) {j : Nat} (hj : j < 16) : (mpart xs b j).getD j 0 = xs.getD j 0 := by
  have e : ((msk xs b).take j).length = j := by simp [msk_len]; omega
  simp only [mpart, List.getD]
  rw [List.getElem?_append_right (by omega), e, Nat.sub_self, List.getElem?_drop]
  rfl
theorem mpart_set {xs : List Int} (h : xs.length = 16) (b : Nat) {j : Nat} (hj : j < 16) : (mpart xs b j).set j (mb (xs.getD j 0) (b - 8 * j)) = mpart xs b (j + 1) := by
  have e : ((msk xs b).take j).length = j := by simp [msk_len]; omega
  unfold mpart
  rw [List.set_append_right _ _ (by omega), e, Nat.sub_self, List.drop_eq_getElem_cons (by omega), List.set_cons_zero, List.take_add_one]
  rw [List.append_assoc]
  congr 1
  have := msk_at xs b hj
  rw [List.getD_eq_getElem?_getD, List.getElem?_eq_getElem (by rw [msk_len]; exact hj)] at this
  rw [List.getElem?_eq_getElem (by rw [msk_len]; exact hj)]
  simp only [Option.getD_some] at this
  rw [this]
  rfl
theorem mpart_end {xs : List Int} (h : xs.length = 16) (b : Nat) : mpart xs b 16 = msk xs b := by
  unfold mpart
  rw [List.take_of_length_le (by rw [msk_len]; omega), List.drop_of_length_le (by omega), List.append_nil]
theorem mb_min (x : Int) (b j : Nat) {k : Nat} (hk : k = min (b - 8 * j) 8) : mb x k = mb x (b - 8 * j) := by
  subst hk
  by_cases h : 8 ≤ b - 8 * j
  · rw [mb_big x h, mb_big x (by omega)]
  · rw [Nat.min_eq_left (by omega)]

end Go.Proofs.YthkiamkhignchaaDoor.Ad

/-
  What Within and Of answer, whatever address, prefix and id they are handed.
  Conditions: none.
-/
namespace Go.Proofs.YthkiamkhignchaaDoor.Ad
open Go.RowKit

/-- a prefix by value -/
abbrev pv (ys : List Int) (b : Int) : Value := .agg (bv (ys ++ [b])).toArray
theorem pv_addr {w : World} {g o : Nat} {ys : List Int} {b : Int} (h : w.rangeAt g o (bv (ys ++ [b]))) : w.rangeAt g o (bv ys) := fun j v hv => h j v (by
  have := (List.getElem?_eq_some_iff.1 hv).1
  simp only [bv, List.map_append] at hv ⊢
  rw [List.getElem?_append_left (by simpa [bv] using this)]
  exact hv)
theorem pv_bits {w : World} {g : Nat} {ys : List Int} {b : Int} (h : w.rangeAt g 0 (bv (ys ++ [b]))) (hy : ys.length = 16) : w.cell? ⟨g, 16, none⟩ = some (.int .u8 b) := by
  have := h 16 (.int .u8 b) (by simp [bv, hy])
  simpa using this
/-- is it of a prefix? -/
def inp (xs ys : List Int) (b : Nat) : Bool := decide (min b 128 ≤ com xs ys)

/-- an id by value -/
abbrev iv (id : List Int) : Value := .agg (bv id).toArray
end Go.Proofs.YthkiamkhignchaaDoor.Ad

/-
  The chapter's examples hold.
  Conditions: the known addresses lie in their table.
-/
namespace Go.Proofs.YthkiamkhignchaaDoor.Ad
open Go.RowKit

def s1 : List Int := [0, 0, 0, 0, 0, 0, 0, 0, 0, 0, 0, 0, 0, 0, 0, 1]
theorem s1_ok : Ok s1 := ⟨rfl, by unfold Byt; decide⟩
theorem s1_made (w : World) : (Instr.build 23 #[(15, .int .u8 1)]).run Tryd.prog w = .ok (av s1) w := by unfold s1; kernel_rfl
def s2 : List Int := [255, 5, 0, 0, 0, 0, 0, 0, 0, 0, 0, 0, 0, 0, 0, 2]
theorem s2_ok : Ok s2 := ⟨rfl, by unfold Byt; decide⟩
theorem s2_made (w : World) : (Instr.build 23 #[(0, .int .u8 255), (1, .int .u8 5), (15, .int .u8 2)]).run Tryd.prog w = .ok (av s2) w := by unfold s2; kernel_rfl
def s3 : List Int := [254, 191, 0, 0, 0, 0, 0, 0, 0, 0, 0, 0, 0, 0, 0, 1]
theorem s3_ok : Ok s3 := ⟨rfl, by unfold Byt; decide⟩
theorem s3_made (w : World) : (Instr.build 23 #[(0, .int .u8 254), (1, .int .u8 191), (15, .int .u8 1)]).run Tryd.prog w = .ok (av s3) w := by unfold s3; kernel_rfl
def s4 : List Int := [254, 192, 0, 0, 0, 0, 0, 0, 0, 0, 0, 0, 0, 0, 0, 1]
theorem s4_ok : Ok s4 := ⟨rfl, by unfold Byt; decide⟩
theorem s4_made (w : World) : (Instr.build 23 #[(0, .int .u8 254), (1, .int .u8 192), (15, .int .u8 1)]).run Tryd.prog w = .ok (av s4) w := by unfold s4; kernel_rfl
def s5 : List Int := [0, 0, 0, 0, 0, 0, 0, 0, 0, 0, 0, 0, 0, 0, 0, 0]
theorem s5_ok : Ok s5 := ⟨rfl, by unfold Byt; decide⟩
theorem s5_made (w : World) : (Instr.build 23 #[]).run Tryd.prog w = .ok (av s5) w := by unfold s5; kernel_rfl
def a0 : List Int := [32, 1, 13, 184, 0, 0, 0, 0, 0, 0, 0, 1, 0, 2, 0, 171]
theorem a0_ok : Ok a0 := ⟨rfl, by unfold Byt; decide⟩
theorem a0_made (w : World) : (Instr.build 23 #[(0, .int .u8 32), (1, .int .u8 1), (2, .int .u8 13), (3, .int .u8 184), (11, .int .u8 1), (13, .int .u8 2), (15, .int .u8 171)]).run Tryd.prog w = .ok (av a0) w := by unfold a0; kernel_rfl
def sa : List Int := [255, 2, 0, 0, 0, 0, 0, 0, 0, 0, 0, 1, 255, 2, 0, 171]
theorem sa_ok : Ok sa := ⟨rfl, by unfold Byt; decide⟩
theorem sa_made (w : World) : (Instr.build 23 #[(0, .int .u8 255), (1, .int .u8 2), (11, .int .u8 1), (12, .int .u8 255), (13, .int .u8 2), (15, .int .u8 171)]).run Tryd.prog w = .ok (av sa) w := by unfold sa; kernel_rfl
def c2 : List Int := [0, 0, 0, 0, 0, 0, 0, 0, 0, 0, 0, 0, 0, 0, 0, 3]
theorem c2_ok : Ok c2 := ⟨rfl, by unfold Byt; decide⟩
theorem c2_made (w : World) : (Instr.build 23 #[(15, .int .u8 3)]).run Tryd.prog w = .ok (av c2) w := by unfold c2; kernel_rfl
def m0 : List Int := [255, 255, 0, 0, 0, 0, 0, 0, 0, 0, 0, 0, 0, 0, 0, 0]
theorem m0_ok : Ok m0 := ⟨rfl, by unfold Byt; decide⟩
theorem m0_made (w : World) : (Instr.build 23 #[(0, .int .u8 255), (1, .int .u8 255)]).run Tryd.prog w = .ok (av m0) w := by unfold m0; kernel_rfl
def n0 : List Int := [255, 128, 0, 0, 0, 0, 0, 0, 0, 0, 0, 0, 0, 0, 0, 0]
theorem n0_ok : Ok n0 := ⟨rfl, by unfold Byt; decide⟩
theorem n0_made (w : World) : (Instr.build 23 #[(0, .int .u8 255), (1, .int .u8 128)]).run Tryd.prog w = .ok (av n0) w := by unfold n0; kernel_rfl
theorem sol1 (w : World) : Calls Tryd.prog 18 #[av a0] w fun e w' => e = .returned (av sa) ∧ Below w.heap.size w w' := by
  have k := solicited_any a0 w a0_ok
  rwa [show sol a0 = sa by rfl] at k
end Go.Proofs.YthkiamkhignchaaDoor.Ad

/-
  Arguments that are addresses, and numbers with ids, opened; what the row says of the table of known addresses, opened.
  Conditions: none.
-/
namespace Go.Proofs.YthkiamkhignchaaDoor.Ad
open Go.ChangeShapes Go.WideShapes Go.ChangeAt Go.RowKit

theorem cellsByte : Tryd.prog.cellsOf 5 = 1 := by kernel_rfl
theorem cellsAddr : Tryd.prog.cellsOf 23 = 16 := by kernel_rfl

section
variable {H : Type} {enc : TypeId × Value → H} {W : World} {base : Nat} {sp : Nat → Bool} {held : Bool}

theorem open_addr {v : Value} {d : DataW H} {p : List MemPlace} {r : Reach} {b0 : Nat} (hv : Value.okWide Tryd.prog W r b0 23 v) (h : DataW.Trod enc Tryd.prog W base sp held 23 v d p) :
    ∃ xs, v = av xs ∧ Ok xs := by
  obtain ⟨cs, rfl, hsz⟩ := okWide_array' Tryd.underlying23 hv
  obtain ⟨fuel, hf⟩ := h
  obtain ⟨xs, hx, hl, hw⟩ := ints_of_array Tryd.underlying23 Tryd.underlying5 cellsByte cellsAddr hf
  have hx' : cs.toList = bv xs := hx
  refine ⟨xs, ?_, hl, fun z hz => u8_of (hw z hz)⟩
  show Value.agg cs = .agg (bv xs).toArray
  rw [← hx']

/-- an array of whole numbers whose datum is known -/
theorem ints_datum {fuel : Nat} {t e : TypeId} {n : Nat} {k : IntKind} {cs : List Value} {x : DataW H × List MemPlace} {P : Program} (ht : P.underlying t = some (.array n e)) (he : P.underlying e = some (.int k)) (hce : P.cellsOf e = 1) (hct : P.cellsOf t = n)
    (h : DataW.trod enc P W base sp held fuel t cs = some x) {zs : List Int} (hd : x.1 = .agg (zs.map fun z => .lit (.int k z))) : cs = zs.map (Value.int k) := by
  obtain ⟨xs, m, _, rfl, hl, hx, hi⟩ := DataW.trod_array ht h
  rw [hct] at hl
  simp only [DataW.agg.injEq] at hd
  have hn : zs.length = n := by
    have := congrArg List.length hd
    simp at this
    omega
  apply List.ext_getElem?
  intro i
  by_cases hin : i < n
  · have h1 := hi i hin
    rw [hce, Nat.mul_one, List.getElem?_eq_getElem (by omega)] at h1
    obtain ⟨z, hz, hy, _⟩ := DataW.trod_int he h1
    have h2 := congrArg (fun l => l[0]?) hz
    have h3 := congrArg (fun l => l[i]?) hd
    simp [hin, hx, hn, hy] at h3
    simp [h3, hin, hn] at h2 ⊢
    exact h2
  · rw [List.getElem?_eq_none (by omega), List.getElem?_eq_none (by simp; omega)]

/-- an array of such arrays -/
theorem rows_datum {fuel : Nat} {t e u : TypeId} {n m : Nat} {k : IntKind} {cs : List Value} {x : DataW H × List MemPlace} {P : Program} (ht : P.underlying t = some (.array n e)) (he : P.underlying e = some (.array m u)) (hu : P.underlying u = some (.int k)) (hcu : P.cellsOf u = 1) (hce : P.cellsOf e = m)
    (h : DataW.trod enc P W base sp held fuel t cs = some x) {zss : List (List Int)} (hd : x.1 = .agg (zss.map fun zs => .agg (zs.map fun z => .lit (.int k z)))) {i j : Nat} (hi : i < n) (hj : j < m) : cs[i * m + j]? = ((zss.getD i []).map (Value.int k))[j]? := by
  obtain ⟨xs, m1, _, rfl, hl, hx, hat⟩ := DataW.trod_array ht h
  simp only [DataW.agg.injEq] at hd
  have hn : zss.length = n := by
    have := congrArg List.length hd
    simp at this
    omega
  have h1 := hat i hi
  rw [hce, List.getElem?_eq_getElem (by omega)] at h1
  have h3 := congrArg (fun l => l[i]?) hd
  simp [hi, hx, hn] at h3
  have h4 := ints_datum he hu hcu hce h1 h3
  have h5 := congrArg (fun l => l[j]?) h4
  have e : zss.getD i [] = zss[i] := by simp [List.getD, hi, hn]
  rw [e, ← h5]
  simp [hj]
end

/-- a world behind w0 in which the table, and these bytes in blocks of their own, lie -/
structure At (w0 w : World) (L : List (Nat × List Int)) : Prop where
  knw : Knw w
  rng : ∀ x ∈ L, w.rangeAt x.1 0 (bv x.2)
  below : Below w0.heap.size w0 w
theorem At.keep {w0 w w' : World} {L : List (Nat × List Int)} (h : At w0 w L) (q : Below w.heap.size w w') : At w0 w' L :=
  ⟨h.knw.keep q, fun x hx => rng_keep (h.rng x hx) q, h.below.trans (q.mono h.below.size)⟩
theorem At.drew {w0 w : World} {L : List (Nat × List Int)} (h : At w0 w L) : At w0 w.drew L := ⟨h.knw, h.rng, still_below h.below⟩
theorem At.new {w0 w : World} {L : List (Nat × List Int)} (h : At w0 w L) (zs : List Int) (t : TypeId) {g : Nat} (hg : g = w.heap.size) : At w0 (w.alloc (.cells (bv zs).toArray t)) ((g, zs) :: L) := by
  have k := h.keep (below_new w (.cells (bv zs).toArray t))
  refine ⟨k.knw, fun x hx => ?_, k.below⟩
  rcases List.mem_cons.1 hx with rfl | hx
  · exact rng_row (row_new hg)
  · exact k.rng x hx
theorem At.begin {w : World} (h : Knw w) : At w w [] := ⟨h, (fun _ hx => by cases hx), Below.refl _ _⟩
theorem At.load {w0 w : World} {L : List (Nat × List Int)} (h : At w0 w L) {g : Nat} {xs : List Int} (hm : (g, xs) ∈ L) (hx : xs.length = 16) : (Instr.loadAt 23 (.pointer (some ⟨g, 0, none⟩))).run Tryd.prog w = .ok (av xs) w :=
  load_rng (h.rng _ hm) hx
theorem mem0 {α : Type} {a : α} {l : List α} : a ∈ a :: l := List.mem_cons_self
theorem mem1 {α : Type} {a b : α} {l : List α} : a ∈ b :: a :: l := List.mem_cons_of_mem _ List.mem_cons_self
theorem mem2 {α : Type} {a b c : α} {l : List α} : a ∈ b :: c :: a :: l := List.mem_cons_of_mem _ mem1
theorem mem3 {α : Type} {a b c d : α} {l : List α} : a ∈ b :: c :: d :: a :: l := List.mem_cons_of_mem _ mem2
theorem mem4 {α : Type} {a b c d e : α} {l : List α} : a ∈ b :: c :: d :: e :: a :: l := List.mem_cons_of_mem _ mem3
theorem mem5 {α : Type} {a b c d e f : α} {l : List α} : a ∈ b :: c :: d :: e :: f :: a :: l := List.mem_cons_of_mem _ mem4

/-- what the row says of the table -/
abbrev laid1 : List (String × DataW Unit) := [("sojourner/addrs.known", Rows.laid_sojourner_addrs_known)]
theorem gKnown : Tryd.prog.globalNamed "sojourner/addrs.known" = some 0 := by kernel_rfl
theorem tKnown : (Tryd.prog.globals[0]?).map (·.type) = some 68 := by kernel_rfl
theorem knw_of_laid {W : World} (h : laidMetH Tryd.prog laid1 W) : Knw W := by
  rw [MakeChecks.laidMetH_plain _ _ _ (by kernel_rfl)] at h
  obtain ⟨ps, ⟨g0, t0, cs0, f0, p0, q0, hg0, ht0, hv0, hd0, _, _⟩, _, _⟩ := h
  obtain rfl := Option.some.inj (gKnown.symm.trans hg0)
  obtain rfl := Option.some.inj (tKnown.symm.trans ht0)
  intro j v hv
  have hj : j < 96 := by
    have := (List.getElem?_eq_some_iff.1 hv).1
    rw [bv_length] at this
    exact this
  rw [Nat.zero_add, World.var?_cell hg0 hv0 j]
  have h := rows_datum Tryd.underlying68 Tryd.underlying23 Tryd.underlying5 cellsByte cellsAddr hd0 (zss := [kn 0, kn 1, kn 2, kn 3, kn 4, kn 5]) rfl (i := j / 16) (j := j % 16) (by omega) (by omega)
  rw [show j / 16 * 16 + j % 16 = j by omega] at h
  rw [← Array.getElem?_toList, h, ← hv]
  have : ∀ j : Fin 96, ((([kn 0, kn 1, kn 2, kn 3, kn 4, kn 5].getD (j.1 / 16) []).map (Value.int .u8))[j.1 % 16]?) = (bv known)[j.1]? := by
    intro j
    have e : ∀ j : Fin 96, ([kn 0, kn 1, kn 2, kn 3, kn 4, kn 5].getD (j.1 / 16) [])[j.1 % 16]? = known[j.1]? := by decide +kernel
    rw [List.getElem?_map, e j]
    simp [bv]
  exact this ⟨j, hj⟩
/-- the door's own heap meets it -/
theorem door_met (os : Os) (args : Array Value) : laidMetH Tryd.prog laid1 ((World.doorLaid Tryd.prog 400 os).forCall (fun _ _ => 0) ⟨#[], args, []⟩).memory :=
  laidMetH_of_parts3 (fuel := 8) (laidMet_of_run' 8 (by kernel_rfl) (by kernel_rfl)) (by kernel_rfl) (by kernel_rfl)

end Go.Proofs.YthkiamkhignchaaDoor.Ad

/-
  A prefix that a literal makes of an address and a number; addresses that lie behind one another, stored; loads of single bytes in regions that draw their order.
  Conditions: none.
-/
namespace Go.Proofs.YthkiamkhignchaaDoor.Ad
open Go.ChangeShapes Go.WideShapes Go.ChangeAt Go.RowKit

theorem rng_tail {w : World} {g o : Nat} {b : Int} {zs : List Int} (h : w.rangeAt g o (bv (b :: zs))) : w.rangeAt g (o + 1) (bv zs) := fun j v hv => by
  have := h (j + 1) v (by simpa [bv] using hv)
  rwa [show o + (j + 1) = o + 1 + j by omega] at this
/-- a variable of sixteen bytes, made and filled -/
theorem At.fill {w0 w : World} {L : List (Nat × List Int)} (h : At w0 w L) (zs : List Int) {Z : Array Value} (t : TypeId) : At w0 ((w.alloc (.cells Z t)).setRow w.heap.size (bv zs).toArray) ((w.heap.size, zs) :: L) := by
  have q := below_setRow (below_new w (.cells Z t)) w.heap.size (bv zs).toArray (Nat.le_refl _)
  have k := h.keep q
  refine ⟨k.knw, fun x hx => ?_, k.below⟩
  rcases List.mem_cons.1 hx with rfl | hx
  · exact rng_row ((row_new rfl).setRow _)
  · exact k.rng x hx
theorem store_new (w : World) {Z : Array Value} (hs : Z.size = 16) {zs : List Int} (hz : zs.length = 16) : (Instr.storeAt 23 (.pointer (some ⟨w.heap.size, 0, none⟩)) (av zs)).run Tryd.prog (w.alloc (.cells Z 23)) = .ok () ((w.alloc (.cells Z 23)).setRow w.heap.size (bv zs).toArray) :=
  store_row (row_new rfl) hs hz
/-- a value that a literal makes, in a region that draws its order -/
theorem yieldsIf_build {P : Program} {ops : Array Oper} {S : World → Prop} {op : Oper} {a : Act} {v : Value} (hw : Region.wanted op (yielded ops a.tmps) = true) (t : TypeId) (ps : Array (Nat × Operand)) (ho : op.op = .build t ps) (vs : Array (Nat × Value)) (hx : ps.map (fun p => (p.1, a.eval p.2)) = vs)
    (hrun : ∀ w, (Instr.build t vs).run P w = .ok v w) : YieldsIf P ops S op v a :=
  .inl ⟨hw, fun w _ => by
    unfold execOp
    simp only [ho, hx, hrun, Sem.run_bind, Sem.run_pure, Result.andThen_ok]⟩
/-- a byte's load, likewise -/
theorem At.byte {w0 w : World} {L : List (Nat × List Int)} (h : At w0 w L) {g : Nat} {xs : List Int} (hm : (g, xs) ∈ L) {j : Nat} (hj : j < xs.length) : w.cell? ⟨g, j, none⟩ = some (.int .u8 (xs.getD j 0)) := rng_at (h.rng _ hm) hj

end Go.Proofs.YthkiamkhignchaaDoor.Ad

/-
  Variables of sixteen bytes that a call makes one behind the other: made, boxed, loaded, stored, whole and byte by byte; slices that a literal makes.
  Conditions: none.
-/
namespace Go.Proofs.YthkiamkhignchaaDoor.Ad
open Go.RowKit

section
variable {P : Program} {w w' : World} {ops : Array Oper} {rest : List Oper} {o : Oper} {a : Act} {Q : Exit → Act → World → Prop}
/-- one operation by what it comes to, told by the slot that it writes: so that the facts of other operations are not tried at it -/
theorem alloc_at (d : Option Tmp) (hd : o.dst = d) {v : Value} (hw : Region.wanted o (yielded ops a.tmps) = true) (t : TypeId) (ho : o.op = .alloc t) (hrun : (Instr.alloc t true (.tuple #[])).run P w = .ok v w') (h : wpList P ops Q rest (a.put d v) w') : wpList P ops Q (o :: rest) a w := by
  subst hd
  exact wpList_alloc_of hw t ho hrun h
theorem load_at (d : Option Tmp) (hd : o.dst = d) {t : TypeId} {v p : Value} (hw : Region.wanted o (yielded ops a.tmps) = true) (x : Operand) (ho : o.op = .load t x) (hx : a.eval x = p) (hrun : (Instr.loadAt t p).run P w = .ok v w) (h : wpList P ops Q rest (a.put d v) w) : wpList P ops Q (o :: rest) a w := by
  subst hd
  exact wpList_load_of hw x ho hx hrun h
theorem slice_at (d : Option Tmp) (hd : o.dst = d) {v : Value} (hw : Region.wanted o (yielded ops a.tmps) = true) (t : TypeId) (n : Nat) (ps : Array (Nat × Operand)) (ho : o.op = .buildSlice t n ps) (vs : Array (Nat × Value)) (hx : ps.map (fun p => (p.1, a.eval p.2)) = vs) (hrun : (Instr.buildSlice t n vs).run P w = .ok v w') (h : wpList P ops Q rest (a.put d v) w') : wpList P ops Q (o :: rest) a w := by
  subst hd
  exact wpList_value_of hw (Instr.buildSlice t n vs) (by subst hx; unfold execOp; simp only [ho]) hrun h
end

/-- from block g on lie these addresses, one a block -/
structure Rws (w0 w : World) (g : Nat) (ls : List (List Int)) : Prop where
  row : ∀ k l, ls[k]? = some l → Row w (g + k) 23 (bv l).toArray ∧ l.length = 16
  size : w.heap.size = g + ls.length
  base : w0.heap.size ≤ g
  below : Below w0.heap.size w0 w

theorem Rws.begin (w : World) : Rws w w w.heap.size [] := ⟨fun k l h => by simp at h, by simp, Nat.le_refl _, Below.refl _ _⟩
theorem Rws.push {w0 w : World} {g : Nat} {ls : List (List Int)} (h : Rws w0 w g ls) (l : List Int) (hl : l.length = 16) : Rws w0 (w.alloc (.cells (bv l).toArray 23)) g (ls ++ [l]) := by
  have q := below_new w (.cells (bv l).toArray 23)
  refine ⟨fun k m hk => ?_, by simp [h.size]; omega, h.base, h.below.trans (q.mono h.below.size)⟩
  by_cases e : k < ls.length
  · rw [List.getElem?_append_left e] at hk
    obtain ⟨a, b⟩ := h.row k m hk
    exact ⟨a.keep q, b⟩
  · rw [List.getElem?_append_right (by omega)] at hk
    have e0 : k - ls.length = 0 := by
      have := (List.getElem?_eq_some_iff.1 hk).1
      simp at this
      omega
    rw [e0] at hk
    simp at hk
    subst hk
    exact ⟨row_new (by rw [h.size]; omega), hl⟩
theorem run_box16 {xs : List Int} (h : xs.length = 16) (w : World) : (Instr.box 23 (av xs)).run Tryd.prog w = .ok (.pointer (some ⟨w.heap.size, 0, none⟩)) (w.alloc (.cells (bv xs).toArray 23)) := by
  match xs, h with
  | [a0, a1, a2, a3, a4, a5, a6, a7, a8, a9, a10, a11, a12, a13, a14, a15], _ => rfl
theorem run_alloc16 (w : World) : (Instr.alloc 23 true (.tuple #[])).run Tryd.prog w = .ok (.pointer (some ⟨w.heap.size, 0, none⟩)) (w.alloc (.cells (bv nil).toArray 23)) := by kernel_rfl
theorem Rws.box {w0 w : World} {g : Nat} {ls : List (List Int)} (h : Rws w0 w g ls) {xs : List Int} (hx : xs.length = 16) : ∃ w', (Instr.box 23 (av xs)).run Tryd.prog w = .ok (.pointer (some ⟨g + ls.length, 0, none⟩)) w' ∧ Rws w0 w' g (ls ++ [xs]) :=
  ⟨_, by rw [run_box16 hx, h.size], h.push xs hx⟩
theorem Rws.alloc {w0 w : World} {g : Nat} {ls : List (List Int)} (h : Rws w0 w g ls) : ∃ w', (Instr.alloc 23 true (.tuple #[])).run Tryd.prog w = .ok (.pointer (some ⟨g + ls.length, 0, none⟩)) w' ∧ Rws w0 w' g (ls ++ [nil]) :=
  ⟨_, by rw [run_alloc16, h.size], h.push nil rfl⟩
theorem Rws.load {w0 w : World} {g : Nat} {ls : List (List Int)} (h : Rws w0 w g ls) (k : Nat) {l : List Int} (hk : ls[k]? = some l) : (Instr.loadAt 23 (.pointer (some ⟨g + k, 0, none⟩))).run Tryd.prog w = .ok (av l) w :=
  load_rng (rng_row (h.row k l hk).1) (h.row k l hk).2
theorem Rws.cell {w0 w : World} {g : Nat} {ls : List (List Int)} (h : Rws w0 w g ls) (k : Nat) {l : List Int} (hk : ls[k]? = some l) {i : Nat} (hi : i < 16) : w.cell? ⟨g + k, i, none⟩ = some (.int .u8 (l.getD i 0)) :=
  rng_at (rng_row (h.row k l hk).1) (by rw [(h.row k l hk).2]; exact hi)
theorem Rws.put {w0 w : World} {g : Nat} {ls : List (List Int)} (h : Rws w0 w g ls) (k : Nat) {l m : List Int} (hk : ls[k]? = some l) (hm : m.length = 16) :
    ∃ w', (Instr.storeAt 23 (.pointer (some ⟨g + k, 0, none⟩)) (av m)).run Tryd.prog w = .ok () w' ∧ Rws w0 w' g (ls.set k m) := by
  obtain ⟨a, b⟩ := h.row k l hk
  have hb := h.base
  refine ⟨_, store_row a (by simp [bv, b]) hm, fun j x hj => ?_, by simp [World.setRow, h.size], h.base, below_setRow h.below _ _ (by omega)⟩
  by_cases e : k = j
  · subst e
    rw [List.getElem?_set_self (List.getElem?_eq_some_iff.1 hk).1] at hj
    injection hj with hj
    subst hj
    exact ⟨a.setRow _, hm⟩
  · rw [List.getElem?_set_ne e] at hj
    obtain ⟨c, d⟩ := h.row j x hj
    exact ⟨row_setRow_far c _ (by omega), d⟩
theorem store_byte {w : World} {g : Nat} {t : TypeId} {l : List Int} (h : Row w g t (bv l).toArray) {i : Nat} (hi : i < l.length) (z : Int) : (Instr.storeAt 5 (.pointer (some ⟨g, i, none⟩)) (.int .u8 z)).run Tryd.prog w = .ok () (w.setCell ⟨g, i, none⟩ (.int .u8 z)) := by
  have c := rng_at (rng_row h) hi
  have f : w.frozen? ⟨g, i, none⟩ = false := h.frozen i
  obtain ⟨j, hj, hz0, hz1, hz2⟩ := info_parts info_u8
  have a0 : (⟨g, i, none⟩ : Addr).add 0 = ⟨g, i, none⟩ := by simp [Addr.add]
  simp [a0, Instr.storeAt, Instr.sureAddr, storeVar, sizeOf, typeInfo, hj, hz1, Value.cells, storeCells, run_store_int, stored, c, f]
theorem Rws.byte {w0 w : World} {g : Nat} {ls : List (List Int)} (h : Rws w0 w g ls) (k : Nat) {l : List Int} (hk : ls[k]? = some l) (i : Nat) (z : Int) : Rws w0 (w.setCell ⟨g + k, i, none⟩ (.int .u8 z)) g (ls.set k (l.set i z)) := by
  obtain ⟨a, b⟩ := h.row k l hk
  have hb := h.base
  refine ⟨fun j x hj => ?_, by simp [World.setCell, h.size], h.base, h.below.setCell (p := ⟨g + k, i, none⟩) (by simp; omega) _⟩
  by_cases e : k = j
  · subst e
    rw [List.getElem?_set_self (List.getElem?_eq_some_iff.1 hk).1] at hj
    injection hj with hj
    subst hj
    have r := a.set i (.int .u8 z)
    rw [List.setIfInBounds_toArray, bv_set] at r
    exact ⟨r, by simp [b]⟩
  · rw [List.getElem?_set_ne e] at hj
    obtain ⟨c, d⟩ := h.row j x hj
    exact ⟨c.far (by simp; omega) _, d⟩
theorem Rws.poke {w0 w : World} {g : Nat} {ls : List (List Int)} (h : Rws w0 w g ls) (k : Nat) {l : List Int} (hk : ls[k]? = some l) {i : Nat} (hi : i < 16) (z : Int) :
    ∃ w', (Instr.storeAt 5 (.pointer (some ⟨g + k, i, none⟩)) (.int .u8 z)).run Tryd.prog w = .ok () w' ∧ Rws w0 w' g (ls.set k (l.set i z)) :=
  ⟨_, store_byte (h.row k l hk).1 (by rw [(h.row k l hk).2]; exact hi) z, h.byte k hk i z⟩
theorem Rws.frozen {w0 w : World} {g : Nat} {ls : List (List Int)} (h : Rws w0 w g ls) (k : Nat) {l : List Int} (hk : ls[k]? = some l) (i : Nat) : w.frozen? ⟨g + k, i, none⟩ = false := (h.row k l hk).1.frozen i
theorem Rws.result {w0 w : World} {g : Nat} {ls : List (List Int)} (h : Rws w0 w g ls) (k : Nat) {l : List Int} (hk : ls[k]? = some l) : Row w (g + k) 23 (bv l).toArray ∧ (Tryd.prog.info? 23).map (·.size) = some (bv l).toArray.size :=
  ⟨(h.row k l hk).1, by simpa using sizeOk (h.row k l hk).2⟩
theorem Rws.drew {w0 w : World} {g : Nat} {ls : List (List Int)} (h : Rws w0 w g ls) : Rws w0 w.drew g ls := ⟨h.row, h.size, h.base, still_below h.below⟩

end Go.Proofs.YthkiamkhignchaaDoor.Ad

/-
  What the reference's Bit, Common, IsMulticast, IsLinkLocal, Solicited answer.
  Conditions: the known addresses lie in their table.
-/
namespace Go.Proofs.YthkiamkhignchaaDoor.Ad
open Go.RowKit

set_option maxRecDepth 100000 in
theorem refBit_any (xs : List Int) (j : Nat) (w : World) (hx : Ok xs) (hj : j < 128) : Calls Tryd.prog 58 #[av xs, .int .i64 j] w fun e w' => e = .returned (.int .u8 (bit xs j)) ∧ Below w.heap.size w w' := by
  obtain ⟨q, t, rfl, ht⟩ : ∃ q t, j = 8 * q + t ∧ t < 8 := ⟨j / 8, j % 8, by omega, by omega⟩
  have R := rng_row (row_new (w := w) (g := w.heap.size) (cs := (bv xs).toArray) (t := 23) rfl)
  have Q := veil (below_new w (.cells (bv xs).toArray 23))
  have c0 := rng_at R (j := q) (by rw [hx.len]; omega)
  have hb := hx.at q
  have E : Hid (bit xs (8 * q + t) = xs.getD q 0 / 2 ^ (7 - t) % 2) := bit_at xs q t ht
  have hq3 : ((8 * q + t : Nat) : Int).tmod 8 = (t : Int) := by rw [Int.tmod_eq_emod_of_nonneg (by omega)]; omega
  have hq4 : ((8 * q + t : Nat) : Int).tdiv 8 = (q : Int) := by rw [Int.tdiv_eq_ediv_of_nonneg (by omega)]; omega
  have hq16 : (q : Int) < 16 := by omega
  generalize xs.getD q 0 = v at *
  have hp0 : 0 ≤ v / 2 ^ (7 - t) := Int.ediv_nonneg hb.1 (Int.pow_nonneg (by decide))
  have hp1 : v / 2 ^ (7 - t) ≤ 255 := Int.le_trans (Int.ediv_le_self _ hb.1) hb.2
  generalize hp : v / 2 ^ (7 - t) = p at *
  generalize hc : 8 * q + t = c at *
  have hm : p % 2 ≤ 255 := by omega
  clear hc R hx
  go_enter Tryd.func58, Tryd.ntmps58
  go_wp2_with fail
  go_ret
  rw [E.out]
  exact ⟨by simp, Q.out⟩

set_option linter.unusedSimpArgs false in
set_option maxHeartbeats 4000000 in
set_option maxRecDepth 100000 in
theorem refCommon_any (xs ys : List Int) (w : World) (hx : Ok xs) (hy : Ok ys) (hk : Knw w) : Calls Tryd.prog 48 #[av xs, av ys] w fun e w' => e = .returned (.int .i64 (com xs ys)) ∧ Below w.heap.size w w' := by
  have M := veil (((At.begin hk).new xs 23 rfl).new ys 23 (g := w.heap.size + 1) (by simp))
  have HX := veil hx
  have HY := veil hy
  have hix := sizeOk hx.len
  have hiy := sizeOk hy.len
  clear hk hx hy
  go_enter Tryd.func48, Tryd.ntmps48
  go_wp2_with fail
  generalize (w.alloc (.cells (bv xs).toArray 23)).alloc (.cells (bv ys).toArray 23) = w0 at *
  go_loopw [5] (fun i wr => ∃ j : Nat, j ≤ 128 ∧ i = .int .i64 j ∧ Hid ((∀ k, k < j → bit xs k = bit ys k) ∧ At w wr [(w.heap.size + 1, ys), (w.heap.size, xs)])) (fun i _ => 128 - (intOf i).toNat)
  case atStart => exact ⟨0, by omega, rfl, (fun k hk => by omega), M.out⟩
  case round =>
    obtain ⟨j, hj, rfl, hR⟩ := hrel
    clear M
    have M := veil hR.out.2.drew
    have A := veil hR.out.1
    clear hR
    by_cases hlt : (j : Int) < 128
    · have K1 := veil (fun v => refBit_any xs j v HX.out (by omega))
      have K2 := veil (fun v => refBit_any ys j v HY.out (by omega))
      by_cases he : bit xs j = bit ys j
      · have HE := veil he
        rw [he] at K1
        clear he
        generalize bit ys j = y at K1 K2
        go_wp2_with fail
        refine wp_region_noPanic ?_
        refine wp_region_held_drew (S := (fun w' => ∀ a ∈ [(w.heap.size + 1, ys), (w.heap.size, xs)], w'.rangeAt a.1 0 (bv a.2))) (by kernel_rfl) M.out.rng (fun hHeld => ?_)
        refine wpAnyH_take (i := 0) (v := ?_) (by rfl) (by kernel_rfl) (by kernel_rfl) (by kernel_rfl) (fun _ _ _ h => h) (Or.inl ⟨by rfl, ?_⟩) hHeld ?_
        rotate_left
        · intro w' hSw
          (try dsimp only at hSw)
          simp only [List.getElem_toArray, List.getElem_cons_zero, List.getElem_cons_succ]
          go_simp
          all_goals (try with_reducible rfl)
        try simp only [Act.put, List.setIfInBounds_toArray, List.set_cons_zero, List.set_cons_succ, List.getElem_toArray, List.getElem_cons_zero, List.getElem_cons_succ]
        refine wpAnyH_take (i := 1) (v := ?_) (by rfl) (by kernel_rfl) (by kernel_rfl) (by kernel_rfl) (fun _ _ _ h => h) (Or.inl ⟨by rfl, ?_⟩) hHeld ?_
        rotate_left
        · intro w' hSw
          (try dsimp only at hSw)
          simp only [List.getElem_toArray, List.getElem_cons_zero, List.getElem_cons_succ]
          go_simp
          all_goals (try with_reducible rfl)
        try simp only [Act.put, List.setIfInBounds_toArray, List.set_cons_zero, List.set_cons_succ, List.getElem_toArray, List.getElem_cons_zero, List.getElem_cons_succ]
        refine wpAnyH_take (i := 2) (v := ?_) (by rfl) (by kernel_rfl) (by kernel_rfl) (by kernel_rfl) (fun _ _ _ h => h) (Or.inl ⟨by rfl, ?_⟩) hHeld ?_
        rotate_left
        · intro w' hSw
          (try dsimp only at hSw)
          simp only [List.getElem_toArray, List.getElem_cons_zero, List.getElem_cons_succ]
          go_simp
          all_goals (try with_reducible rfl)
        try simp only [Act.put, List.setIfInBounds_toArray, List.set_cons_zero, List.set_cons_succ, List.getElem_toArray, List.getElem_cons_zero, List.getElem_cons_succ]
        refine wpAnyH_take (i := 3) (v := _) (by rfl) (by kernel_rfl) (by kernel_rfl) (by kernel_rfl) (fun _ _ _ h => h) (yieldsIf_load_mid (by rfl) _ _ (by rfl) _ _ rfl (bv xs) _ (fun _ h => h _ mem1) Tryd.underlying23 rfl hix) hHeld ?_
        try simp only [Act.put, List.setIfInBounds_toArray, List.set_cons_zero, List.set_cons_succ, List.getElem_toArray, List.getElem_cons_zero, List.getElem_cons_succ]
        refine wpAnyH_take (i := 4) (v := ?_) (by rfl) (by kernel_rfl) (by kernel_rfl) (by kernel_rfl) (fun _ _ _ h => h) (Or.inl ⟨by rfl, ?_⟩) hHeld ?_
        rotate_left
        · intro w' hSw
          (try dsimp only at hSw)
          simp only [List.getElem_toArray, List.getElem_cons_zero, List.getElem_cons_succ]
          go_simp
          all_goals (try with_reducible rfl)
        try simp only [Act.put, List.setIfInBounds_toArray, List.set_cons_zero, List.set_cons_succ, List.getElem_toArray, List.getElem_cons_zero, List.getElem_cons_succ]
        refine wpAnyH_take (i := 6) (v := _) (by rfl) (by kernel_rfl) (by kernel_rfl) (by kernel_rfl) (fun _ _ _ h => h) (yieldsIf_load_mid (by rfl) _ _ (by rfl) _ _ rfl (bv ys) _ (fun _ h => h _ mem0) Tryd.underlying23 rfl hiy) hHeld ?_
        try simp only [Act.put, List.setIfInBounds_toArray, List.set_cons_zero, List.set_cons_succ, List.getElem_toArray, List.getElem_cons_zero, List.getElem_cons_succ]
        refine wpAnyH_take (i := 7) (v := ?_) (by rfl) (by kernel_rfl) (by kernel_rfl) (by kernel_rfl) (fun _ _ _ h => h) (Or.inl ⟨by rfl, ?_⟩) hHeld ?_
        rotate_left
        · intro w' hSw
          (try dsimp only at hSw)
          simp only [List.getElem_toArray, List.getElem_cons_zero, List.getElem_cons_succ]
          go_simp
          all_goals (try with_reducible rfl)
        try simp only [Act.put, List.setIfInBounds_toArray, List.set_cons_zero, List.set_cons_succ, List.getElem_toArray, List.getElem_cons_zero, List.getElem_cons_succ]
        refine wpAnyH_ready (rs := [5]) (by kernel_rfl) (by simp) ?_
        refine AllReadyH.cons (by rfl) (fun K hK => ?_) AllReadyH.nil
        simp only [List.getElem_toArray, List.getElem_cons_zero, List.getElem_cons_succ]
        go_simp
        refine (K1.out _).mono ?_
        rintro e w1 ⟨rfl, q⟩
        have M := veil (M.out.keep q)
        clear q
        (try dsimp only)
        refine hK.out _ _ M.out.rng (fun hHeld => ?_)
        clear hK K
        try simp only [Act.put, List.setIfInBounds_toArray, List.set_cons_zero, List.set_cons_succ, List.getElem_toArray, List.getElem_cons_zero, List.getElem_cons_succ]
        refine wpAnyH_ready (rs := [8]) (by kernel_rfl) (by simp) ?_
        refine AllReadyH.cons (by rfl) (fun K hK => ?_) AllReadyH.nil
        simp only [List.getElem_toArray, List.getElem_cons_zero, List.getElem_cons_succ]
        go_simp
        refine (K2.out _).mono ?_
        rintro e w2 ⟨rfl, q⟩
        have M := veil (M.out.keep q)
        clear q
        (try dsimp only)
        refine hK.out _ _ M.out.rng (fun hHeld => ?_)
        clear hK K
        try simp only [Act.put, List.setIfInBounds_toArray, List.set_cons_zero, List.set_cons_succ, List.getElem_toArray, List.getElem_cons_zero, List.getElem_cons_succ]
        refine wpAnyH_take (i := 9) (v := ?_) (by rfl) (by kernel_rfl) (by kernel_rfl) (by kernel_rfl) (fun _ _ _ h => h) (Or.inl ⟨by rfl, ?_⟩) hHeld ?_
        rotate_left
        · intro w' hSw
          (try dsimp only at hSw)
          simp only [List.getElem_toArray, List.getElem_cons_zero, List.getElem_cons_succ]
          go_simp
          all_goals (try with_reducible rfl)
        try simp only [Act.put, List.setIfInBounds_toArray, List.set_cons_zero, List.set_cons_succ, List.getElem_toArray, List.getElem_cons_zero, List.getElem_cons_succ]
        refine wpAnyH_take (i := 10) (v := ?_) (by rfl) (by kernel_rfl) (by kernel_rfl) (by kernel_rfl) (fun _ _ _ h => h) (Or.inl ⟨by rfl, ?_⟩) hHeld ?_
        rotate_left
        · intro w' hSw
          (try dsimp only at hSw)
          simp only [List.getElem_toArray, List.getElem_cons_zero, List.getElem_cons_succ]
          go_simp
          all_goals (try with_reducible rfl)
        try simp only [Act.put, List.setIfInBounds_toArray, List.set_cons_zero, List.set_cons_succ, List.getElem_toArray, List.getElem_cons_zero, List.getElem_cons_succ]
        refine wpAnyH_done (by kernel_rfl) ?_ _
        refine NoPanic.normal ?_
        clear hHeld
        clear K1 K2
        go_wp2_with fail
        go_roundw
        case rel =>
          refine ⟨j + 1, by omega, by go_num, fun k hk => ?_, M.out⟩
          by_cases e : k = j
          · subst e
            exact HE.out
          · exact A.out k (by omega)
        case measure => simp [intOf]; omega
      · have C := veil (com_of (by omega) A.out (fun _ => he))
        have hne : (bit xs j == bit ys j) = false := by simpa using he
        generalize bit xs j = x at K1 hne
        generalize bit ys j = y at K2 hne
        clear he
        go_wp2_with fail
        refine wp_region_noPanic ?_
        refine wp_region_held_drew (S := (fun w' => ∀ a ∈ [(w.heap.size + 1, ys), (w.heap.size, xs)], w'.rangeAt a.1 0 (bv a.2))) (by kernel_rfl) M.out.rng (fun hHeld => ?_)
        refine wpAnyH_take (i := 0) (v := ?_) (by rfl) (by kernel_rfl) (by kernel_rfl) (by kernel_rfl) (fun _ _ _ h => h) (Or.inl ⟨by rfl, ?_⟩) hHeld ?_
        rotate_left
        · intro w' hSw
          (try dsimp only at hSw)
          simp only [List.getElem_toArray, List.getElem_cons_zero, List.getElem_cons_succ]
          go_simp
          all_goals (try with_reducible rfl)
        try simp only [Act.put, List.setIfInBounds_toArray, List.set_cons_zero, List.set_cons_succ, List.getElem_toArray, List.getElem_cons_zero, List.getElem_cons_succ]
        refine wpAnyH_take (i := 1) (v := ?_) (by rfl) (by kernel_rfl) (by kernel_rfl) (by kernel_rfl) (fun _ _ _ h => h) (Or.inl ⟨by rfl, ?_⟩) hHeld ?_
        rotate_left
        · intro w' hSw
          (try dsimp only at hSw)
          simp only [List.getElem_toArray, List.getElem_cons_zero, List.getElem_cons_succ]
          go_simp
          all_goals (try with_reducible rfl)
        try simp only [Act.put, List.setIfInBounds_toArray, List.set_cons_zero, List.set_cons_succ, List.getElem_toArray, List.getElem_cons_zero, List.getElem_cons_succ]
        refine wpAnyH_take (i := 2) (v := ?_) (by rfl) (by kernel_rfl) (by kernel_rfl) (by kernel_rfl) (fun _ _ _ h => h) (Or.inl ⟨by rfl, ?_⟩) hHeld ?_
        rotate_left
        · intro w' hSw
          (try dsimp only at hSw)
          simp only [List.getElem_toArray, List.getElem_cons_zero, List.getElem_cons_succ]
          go_simp
          all_goals (try with_reducible rfl)
        try simp only [Act.put, List.setIfInBounds_toArray, List.set_cons_zero, List.set_cons_succ, List.getElem_toArray, List.getElem_cons_zero, List.getElem_cons_succ]
        refine wpAnyH_take (i := 3) (v := _) (by rfl) (by kernel_rfl) (by kernel_rfl) (by kernel_rfl) (fun _ _ _ h => h) (yieldsIf_load_mid (by rfl) _ _ (by rfl) _ _ rfl (bv xs) _ (fun _ h => h _ mem1) Tryd.underlying23 rfl hix) hHeld ?_
        try simp only [Act.put, List.setIfInBounds_toArray, List.set_cons_zero, List.set_cons_succ, List.getElem_toArray, List.getElem_cons_zero, List.getElem_cons_succ]
        refine wpAnyH_take (i := 4) (v := ?_) (by rfl) (by kernel_rfl) (by kernel_rfl) (by kernel_rfl) (fun _ _ _ h => h) (Or.inl ⟨by rfl, ?_⟩) hHeld ?_
        rotate_left
        · intro w' hSw
          (try dsimp only at hSw)
          simp only [List.getElem_toArray, List.getElem_cons_zero, List.getElem_cons_succ]
          go_simp
          all_goals (try with_reducible rfl)
        try simp only [Act.put, List.setIfInBounds_toArray, List.set_cons_zero, List.set_cons_succ, List.getElem_toArray, List.getElem_cons_zero, List.getElem_cons_succ]
        refine wpAnyH_take (i := 6) (v := _) (by rfl) (by kernel_rfl) (by kernel_rfl) (by kernel_rfl) (fun _ _ _ h => h) (yieldsIf_load_mid (by rfl) _ _ (by rfl) _ _ rfl (bv ys) _ (fun _ h => h _ mem0) Tryd.underlying23 rfl hiy) hHeld ?_
        try simp only [Act.put, List.setIfInBounds_toArray, List.set_cons_zero, List.set_cons_succ, List.getElem_toArray, List.getElem_cons_zero, List.getElem_cons_succ]
        refine wpAnyH_take (i := 7) (v := ?_) (by rfl) (by kernel_rfl) (by kernel_rfl) (by kernel_rfl) (fun _ _ _ h => h) (Or.inl ⟨by rfl, ?_⟩) hHeld ?_
        rotate_left
        · intro w' hSw
          (try dsimp only at hSw)
          simp only [List.getElem_toArray, List.getElem_cons_zero, List.getElem_cons_succ]
          go_simp
          all_goals (try with_reducible rfl)
        try simp only [Act.put, List.setIfInBounds_toArray, List.set_cons_zero, List.set_cons_succ, List.getElem_toArray, List.getElem_cons_zero, List.getElem_cons_succ]
        refine wpAnyH_ready (rs := [5]) (by kernel_rfl) (by simp) ?_
        refine AllReadyH.cons (by rfl) (fun K hK => ?_) AllReadyH.nil
        simp only [List.getElem_toArray, List.getElem_cons_zero, List.getElem_cons_succ]
        go_simp
        refine (K1.out _).mono ?_
        rintro e w1 ⟨rfl, q⟩
        have M := veil (M.out.keep q)
        clear q
        (try dsimp only)
        refine hK.out _ _ M.out.rng (fun hHeld => ?_)
        clear hK K
        try simp only [Act.put, List.setIfInBounds_toArray, List.set_cons_zero, List.set_cons_succ, List.getElem_toArray, List.getElem_cons_zero, List.getElem_cons_succ]
        refine wpAnyH_ready (rs := [8]) (by kernel_rfl) (by simp) ?_
        refine AllReadyH.cons (by rfl) (fun K hK => ?_) AllReadyH.nil
        simp only [List.getElem_toArray, List.getElem_cons_zero, List.getElem_cons_succ]
        go_simp
        refine (K2.out _).mono ?_
        rintro e w2 ⟨rfl, q⟩
        have M := veil (M.out.keep q)
        clear q
        (try dsimp only)
        refine hK.out _ _ M.out.rng (fun hHeld => ?_)
        clear hK K
        try simp only [Act.put, List.setIfInBounds_toArray, List.set_cons_zero, List.set_cons_succ, List.getElem_toArray, List.getElem_cons_zero, List.getElem_cons_succ]
        refine wpAnyH_take (i := 9) (v := ?_) (by rfl) (by kernel_rfl) (by kernel_rfl) (by kernel_rfl) (fun _ _ _ h => h) (Or.inl ⟨by rfl, ?_⟩) hHeld ?_
        rotate_left
        · intro w' hSw
          (try dsimp only at hSw)
          simp only [List.getElem_toArray, List.getElem_cons_zero, List.getElem_cons_succ]
          go_simp
          all_goals (try with_reducible rfl)
        try simp only [Act.put, List.setIfInBounds_toArray, List.set_cons_zero, List.set_cons_succ, List.getElem_toArray, List.getElem_cons_zero, List.getElem_cons_succ]
        refine wpAnyH_take (i := 10) (v := ?_) (by rfl) (by kernel_rfl) (by kernel_rfl) (by kernel_rfl) (fun _ _ _ h => h) (Or.inl ⟨by rfl, ?_⟩) hHeld ?_
        rotate_left
        · intro w' hSw
          (try dsimp only at hSw)
          simp only [List.getElem_toArray, List.getElem_cons_zero, List.getElem_cons_succ]
          go_simp
          all_goals (try with_reducible rfl)
        try simp only [Act.put, List.setIfInBounds_toArray, List.set_cons_zero, List.set_cons_succ, List.getElem_toArray, List.getElem_cons_zero, List.getElem_cons_succ]
        refine wpAnyH_done (by kernel_rfl) ?_ _
        refine NoPanic.normal ?_
        clear hHeld
        clear K1 K2
        go_wp2_with fail
        go_ret
        rw [C.out]
        exact ⟨rfl, M.out.below⟩
    · obtain rfl : j = 128 := by omega
      have C := veil (com_of (xs := xs) (ys := ys) (Nat.le_refl 128) A.out (fun h => by omega))
      go_wp2_with fail
      refine wp_region_noPanic ?_
      refine wp_region_held_drew (S := (fun w' => ∀ a ∈ [(w.heap.size + 1, ys), (w.heap.size, xs)], w'.rangeAt a.1 0 (bv a.2))) (by kernel_rfl) M.out.rng (fun hHeld => ?_)
      refine wpAnyH_take (i := 0) (v := ?_) (by rfl) (by kernel_rfl) (by kernel_rfl) (by kernel_rfl) (fun _ _ _ h => h) (Or.inl ⟨by rfl, ?_⟩) hHeld ?_
      rotate_left
      · intro w' hSw
        (try dsimp only at hSw)
        simp only [List.getElem_toArray, List.getElem_cons_zero, List.getElem_cons_succ]
        go_simp
        all_goals (try with_reducible rfl)
      try simp only [Act.put, List.setIfInBounds_toArray, List.set_cons_zero, List.set_cons_succ, List.getElem_toArray, List.getElem_cons_zero, List.getElem_cons_succ]
      refine wpAnyH_take (i := 1) (v := ?_) (by rfl) (by kernel_rfl) (by kernel_rfl) (by kernel_rfl) (fun _ _ _ h => h) (Or.inl ⟨by rfl, ?_⟩) hHeld ?_
      rotate_left
      · intro w' hSw
        (try dsimp only at hSw)
        simp only [List.getElem_toArray, List.getElem_cons_zero, List.getElem_cons_succ]
        go_simp
        all_goals (try with_reducible rfl)
      try simp only [Act.put, List.setIfInBounds_toArray, List.set_cons_zero, List.set_cons_succ, List.getElem_toArray, List.getElem_cons_zero, List.getElem_cons_succ]
      refine wpAnyH_take (i := 2) (v := ?_) (by rfl) (by kernel_rfl) (by kernel_rfl) (by kernel_rfl) (fun _ _ _ h => h) (Or.inl ⟨by rfl, ?_⟩) hHeld ?_
      rotate_left
      · intro w' hSw
        (try dsimp only at hSw)
        simp only [List.getElem_toArray, List.getElem_cons_zero, List.getElem_cons_succ]
        go_simp
        all_goals (try with_reducible rfl)
      try simp only [Act.put, List.setIfInBounds_toArray, List.set_cons_zero, List.set_cons_succ, List.getElem_toArray, List.getElem_cons_zero, List.getElem_cons_succ]
      refine wpAnyH_take (i := 3) (v := undef) (by rfl) (by kernel_rfl) (by kernel_rfl) (by kernel_rfl) (fun _ _ _ h => h) (Or.inr ⟨by rfl, rfl⟩) hHeld ?_
      try simp only [Act.put, List.setIfInBounds_toArray, List.set_cons_zero, List.set_cons_succ, List.getElem_toArray, List.getElem_cons_zero, List.getElem_cons_succ]
      refine wpAnyH_take (i := 4) (v := undef) (by rfl) (by kernel_rfl) (by kernel_rfl) (by kernel_rfl) (fun _ _ _ h => h) (Or.inr ⟨by rfl, rfl⟩) hHeld ?_
      try simp only [Act.put, List.setIfInBounds_toArray, List.set_cons_zero, List.set_cons_succ, List.getElem_toArray, List.getElem_cons_zero, List.getElem_cons_succ]
      refine wpAnyH_take (i := 5) (v := undef) (by rfl) (by kernel_rfl) (by kernel_rfl) (by kernel_rfl) (fun _ _ _ h => h) (Or.inr ⟨by rfl, rfl⟩) hHeld ?_
      try simp only [Act.put, List.setIfInBounds_toArray, List.set_cons_zero, List.set_cons_succ, List.getElem_toArray, List.getElem_cons_zero, List.getElem_cons_succ]
      refine wpAnyH_take (i := 6) (v := undef) (by rfl) (by kernel_rfl) (by kernel_rfl) (by kernel_rfl) (fun _ _ _ h => h) (Or.inr ⟨by rfl, rfl⟩) hHeld ?_
      try simp only [Act.put, List.setIfInBounds_toArray, List.set_cons_zero, List.set_cons_succ, List.getElem_toArray, List.getElem_cons_zero, List.getElem_cons_succ]
      refine wpAnyH_take (i := 7) (v := undef) (by rfl) (by kernel_rfl) (by kernel_rfl) (by kernel_rfl) (fun _ _ _ h => h) (Or.inr ⟨by rfl, rfl⟩) hHeld ?_
      try simp only [Act.put, List.setIfInBounds_toArray, List.set_cons_zero, List.set_cons_succ, List.getElem_toArray, List.getElem_cons_zero, List.getElem_cons_succ]
      refine wpAnyH_take (i := 8) (v := undef) (by rfl) (by kernel_rfl) (by kernel_rfl) (by kernel_rfl) (fun _ _ _ h => h) (Or.inr ⟨by rfl, rfl⟩) hHeld ?_
      try simp only [Act.put, List.setIfInBounds_toArray, List.set_cons_zero, List.set_cons_succ, List.getElem_toArray, List.getElem_cons_zero, List.getElem_cons_succ]
      refine wpAnyH_take (i := 9) (v := undef) (by rfl) (by kernel_rfl) (by kernel_rfl) (by kernel_rfl) (fun _ _ _ h => h) (Or.inr ⟨by rfl, rfl⟩) hHeld ?_
      try simp only [Act.put, List.setIfInBounds_toArray, List.set_cons_zero, List.set_cons_succ, List.getElem_toArray, List.getElem_cons_zero, List.getElem_cons_succ]
      refine wpAnyH_take (i := 10) (v := ?_) (by rfl) (by kernel_rfl) (by kernel_rfl) (by kernel_rfl) (fun _ _ _ h => h) (Or.inl ⟨by rfl, ?_⟩) hHeld ?_
      rotate_left
      · intro w' hSw
        (try dsimp only at hSw)
        simp only [List.getElem_toArray, List.getElem_cons_zero, List.getElem_cons_succ]
        go_simp
        all_goals (try with_reducible rfl)
      try simp only [Act.put, List.setIfInBounds_toArray, List.set_cons_zero, List.set_cons_succ, List.getElem_toArray, List.getElem_cons_zero, List.getElem_cons_succ]
      refine wpAnyH_done (by kernel_rfl) ?_ _
      refine NoPanic.normal ?_
      clear hHeld
      go_wp2_with fail
      go_ret
      rw [C.out]
      exact ⟨rfl, M.out.below⟩

theorem refIsMulticast_any (xs : List Int) (w : World) (h : Ok xs) : Calls Tryd.prog 28 #[av xs] w fun e w' => e = .returned (.bool (mult xs)) ∧ Below w.heap.size w w' := by
  have R := rng_row (row_new (w := w) (g := w.heap.size) (cs := (bv xs).toArray) (t := 23) rfl)
  have Q := veil (below_new w (.cells (bv xs).toArray 23))
  have c0 := rng_at R (j := 0) (by rw [h.len]; omega)
  have M : Hid (mult xs = decide (xs.getD 0 0 = 255)) := rfl
  generalize xs.getD 0 0 = x0 at *
  clear R h
  go_enter Tryd.func28, Tryd.ntmps28
  go_wp2_with fail
  go_ret
  rw [M.out]
  refine ⟨?_, Q.out⟩
  by_cases hx : x0 = 255 <;> simp [hx]

/-- where link-local addresses begin -/
def fe : List Int := [254, 128, 0, 0, 0, 0, 0, 0, 0, 0, 0, 0, 0, 0, 0, 0]
theorem fe_ok : Ok fe := ⟨rfl, by unfold Byt; decide⟩
theorem fe_made (w : World) : (Instr.build 23 #[(0, .int .u8 254), (1, .int .u8 128)]).run Tryd.prog w = .ok (av fe) w := by unfold fe; kernel_rfl
theorem ll_com {xs : List Int} (h : Ok xs) : decide (10 ≤ ((com xs fe : Nat) : Int)) = ll xs := by
  unfold ll
  rw [Bool.eq_iff_iff]
  simp only [decide_eq_true_eq]
  have e : (10 ≤ ((com xs fe : Nat) : Int)) ↔ 10 ≤ com xs fe := by omega
  rw [e, le_com (by omega)]
  have b0 := h.at 0
  have b1 := h.at 1
  constructor
  · intro k
    refine ⟨byte_ext b0 (show (0 : Int) ≤ 254 ∧ (254 : Int) ≤ 255 by omega) (fun j hj => ?_), ?_⟩
    · have := k j (by omega)
      rw [show j = 8 * 0 + j by omega, bit_at _ _ _ hj, bit_at _ _ _ hj] at this
      exact this
    · have k8 := k 8 (by omega)
      have k9 := k 9 (by omega)
      rw [show 8 = 8 * 1 + 0 from rfl, bit_at _ _ _ (by omega), bit_at _ _ _ (by omega), show bit8 (fe.getD 1 0) 0 = 1 by decide] at k8
      rw [show 9 = 8 * 1 + 1 from rfl, bit_at _ _ _ (by omega), bit_at _ _ _ (by omega), show bit8 (fe.getD 1 0) 1 = 0 by decide] at k9
      unfold bit8 at k8 k9
      simp only [Nat.sub_zero, Nat.reduceSub, Int.reducePow] at k8 k9
      omega
  · rintro ⟨k0, k1⟩ j hj
    by_cases h8 : j < 8
    · rw [show j = 8 * 0 + j by omega, bit_at _ _ _ h8, bit_at _ _ _ h8, k0]
      rfl
    · rcases (by omega : j = 8 * 1 + 0 ∨ j = 8 * 1 + 1) with rfl | rfl
      · rw [bit_at _ _ _ (by omega), bit_at _ _ _ (by omega), show bit8 (fe.getD 1 0) 0 = 1 by decide]
        unfold bit8
        simp only [Nat.sub_zero, Int.reducePow]
        omega
      · rw [bit_at _ _ _ (by omega), bit_at _ _ _ (by omega), show bit8 (fe.getD 1 0) 1 = 0 by decide]
        unfold bit8
        simp only [Nat.reduceSub, Int.reducePow]
        omega

theorem refIsLinkLocal_any (xs : List Int) (w : World) (h : Ok xs) (hk : Knw w) : Calls Tryd.prog 26 #[av xs] w fun e w' => e = .returned (.bool (ll xs)) ∧ Below w.heap.size w w' := by
  have M := veil ((At.begin hk).new xs 23 rfl)
  have H := veil h
  have E := veil (ll_com h)
  clear h hk
  go_enter Tryd.func26, Tryd.ntmps26
  go_wp2_with (first
    | (refine wpList_load_of rfl _ rfl rfl (M.out.load mem0 H.out.len) ?_)
    | (refine wpList_build_of rfl 23 #[(0, .const (.int .u8 254)), (1, .const (.int .u8 128))] rfl #[(0, .int .u8 254), (1, .int .u8 128)] (by simp [Act.eval]) (fe_made _) ?_))
  generalize w.alloc (.cells (bv xs).toArray 23) = w0 at *
  refine (refCommon_any xs fe w0 H.out fe_ok M.out.knw).mono ?_
  rintro e w1 ⟨rfl, q⟩
  have M := veil (M.out.keep q)
  clear q
  have EN := E.out
  generalize com xs fe = n at *
  clear E
  go_wp2_with fail
  go_ret
  rw [← EN]
  exact ⟨rfl, M.out.below⟩

end Go.Proofs.YthkiamkhignchaaDoor.Ad

/-
  What the reference's Solicited answers.
  Conditions: none.
-/
namespace Go.Proofs.YthkiamkhignchaaDoor.Ad
open Go.RowKit

/-- a solicited address, as it begins -/
def ff : List Int := [255, 2, 0, 0, 0, 0, 0, 0, 0, 0, 0, 0, 0, 0, 0, 0]
theorem ff_made (w : World) : (Instr.build 23 #[(0, .int .u8 255), (1, .int .u8 2)]).run Tryd.prog w = .ok (av ff) w := by unfold ff; kernel_rfl
set_option maxHeartbeats 1000000 in
theorem refSolicited_any (xs : List Int) (w : World) (h : Ok xs) : Calls Tryd.prog 29 #[av xs] w fun e w' => e = .returned (av (sol xs)) ∧ Below w.heap.size w w' := by
  have E : (((((ff.set 11 1).set 12 255).set 13 (xs.getD 13 0)).set 14 (xs.getD 14 0)).set 15 (xs.getD 15 0)) = sol xs := rfl
  have O := (sol_ok h).len
  have M3 := (((Rws.begin w).push xs h.len).push nil rfl).push nil rfl
  obtain ⟨w4, A4, M4⟩ := M3.put 2 (m := ff) rfl rfl
  obtain ⟨w5, A5, M5⟩ := M4.poke 2 (i := 11) rfl (by omega) 1
  obtain ⟨w6, A6, M6⟩ := M5.poke 2 (i := 12) rfl (by omega) 255
  have c13 : w6.cell? ⟨w.heap.size, 13, none⟩ = some (.int .u8 (xs.getD 13 0)) := M6.cell 0 (i := 13) rfl (by omega)
  obtain ⟨w7, A7, M7⟩ := M6.poke 2 (i := 13) rfl (by omega) (xs.getD 13 0)
  have c14 : w7.cell? ⟨w.heap.size, 14, none⟩ = some (.int .u8 (xs.getD 14 0)) := M7.cell 0 (i := 14) rfl (by omega)
  obtain ⟨w8, A8, M8⟩ := M7.poke 2 (i := 14) rfl (by omega) (xs.getD 14 0)
  have c15 : w8.cell? ⟨w.heap.size, 15, none⟩ = some (.int .u8 (xs.getD 15 0)) := M8.cell 0 (i := 15) rfl (by omega)
  obtain ⟨w9, A9, M9⟩ := M8.poke 2 (i := 15) rfl (by omega) (xs.getD 15 0)
  have L9 := M9.load 2 rfl
  rw [E] at L9
  obtain ⟨w10, A10, M10⟩ := M9.put 1 (m := sol xs) rfl O
  obtain ⟨R, hl⟩ := M10.result 1 rfl
  have Q := veil M10.below
  replace R := veil R
  have T4 : Hid ((Instr.storeAt 23 (.pointer (some ⟨w.heap.size + 1 + 1, 0, none⟩)) (av ff)).run Tryd.prog (((w.alloc (.cells (bv xs).toArray 23)).alloc (.cells #[.int .u8 0, .int .u8 0, .int .u8 0, .int .u8 0, .int .u8 0, .int .u8 0, .int .u8 0, .int .u8 0, .int .u8 0, .int .u8 0, .int .u8 0, .int .u8 0, .int .u8 0, .int .u8 0, .int .u8 0, .int .u8 0] 23)).alloc (.cells #[.int .u8 0, .int .u8 0, .int .u8 0, .int .u8 0, .int .u8 0, .int .u8 0, .int .u8 0, .int .u8 0, .int .u8 0, .int .u8 0, .int .u8 0, .int .u8 0, .int .u8 0, .int .u8 0, .int .u8 0, .int .u8 0] 23)) = .ok () w4) := A4
  have T5 : Hid ((Instr.storeAt 5 (.pointer (some ⟨w.heap.size + 1 + 1, 11, none⟩)) (.int .u8 1)).run Tryd.prog w4 = .ok () w5) := A5
  have T6 : Hid ((Instr.storeAt 5 (.pointer (some ⟨w.heap.size + 1 + 1, 12, none⟩)) (.int .u8 255)).run Tryd.prog w5 = .ok () w6) := A6
  have T7 : Hid ((Instr.storeAt 5 (.pointer (some ⟨w.heap.size + 1 + 1, 13, none⟩)) (.int .u8 (xs.getD 13 0))).run Tryd.prog w6 = .ok () w7) := A7
  have T8 : Hid ((Instr.storeAt 5 (.pointer (some ⟨w.heap.size + 1 + 1, 14, none⟩)) (.int .u8 (xs.getD 14 0))).run Tryd.prog w7 = .ok () w8) := A8
  have T9 : Hid ((Instr.storeAt 5 (.pointer (some ⟨w.heap.size + 1 + 1, 15, none⟩)) (.int .u8 (xs.getD 15 0))).run Tryd.prog w8 = .ok () w9) := A9
  have L : Hid ((Instr.loadAt 23 (.pointer (some ⟨w.heap.size + 1 + 1, 0, none⟩))).run Tryd.prog w9 = .ok (av (sol xs)) w9) := L9
  have T10 : Hid ((Instr.storeAt 23 (.pointer (some ⟨w.heap.size + 1, 0, none⟩)) (av (sol xs))).run Tryd.prog w9 = .ok () w10) := A10
  clear M3 M4 M5 M6 M7 M8 M9 M10 A4 A5 A6 A7 A8 A9 A10 L9 E O h
  generalize xs.getD 13 0 = a at *
  generalize xs.getD 14 0 = b at *
  generalize xs.getD 15 0 = c at *
  generalize sol xs = ys at *
  go_enter Tryd.func29, Tryd.ntmps29
  go_wp2_with (first
    | (refine wpList_build_of rfl 23 #[(0, .const (.int .u8 255)), (1, .const (.int .u8 2))] rfl #[(0, .int .u8 255), (1, .int .u8 2)] (by simp [Act.eval]) (ff_made _) ?_)
    | (refine wpList_store_of (t := 23) rfl (.tmp 3) (.tmp 4) rfl rfl rfl T4.out ?_)
    | (refine wpList_store_of (t := 5) rfl (.tmp 5) (.const (.int .u8 1)) rfl rfl rfl T5.out ?_)
    | (refine wpList_store_of (t := 5) rfl (.tmp 6) (.const (.int .u8 255)) rfl rfl rfl T6.out ?_)
    | (refine wpList_store_of (t := 5) rfl (.tmp 9) (.tmp 8) rfl rfl rfl T7.out ?_)
    | (refine wpList_store_of (t := 5) rfl (.tmp 12) (.tmp 11) rfl rfl rfl T8.out ?_)
    | (refine wpList_store_of (t := 5) rfl (.tmp 15) (.tmp 14) rfl rfl rfl T9.out ?_)
    | (refine load_at (some 16) rfl (t := 23) rfl (.tmp 3) rfl rfl L.out ?_)
    | (refine wpList_store_of (t := 23) rfl (.tmp 2) (.tmp 16) rfl rfl rfl T10.out ?_))
  refine bodyPost_ret (results_cell_row rfl _ _ (w.heap.size + 1) _ _ (0, 0) _ rfl R.out Tryd.underlying23 rfl hl) rfl ?_
  exact ⟨rfl, Q.out⟩

end Go.Proofs.YthkiamkhignchaaDoor.Ad
