/-
  Addresses as sixteen whole numbers: their bits, how many two of them have in common, what is masked.
  Conditions: none.
-/
import Derived.Test.YthkiamkhignchaaDoorNum
import Derived.Lib.BitFns
import Derived.Laws.Entries
namespace Go.Proofs.YthkiamkhignchaaDoor.Ad

/-- an address: sixteen bytes -/
structure Ok (xs : List Int) : Prop where
  len : xs.length = 16
  byt : Byt xs

/-- a byte's bits, from the highest one on -/
def bit8 (x : Int) (j : Nat) : Int := x / 2 ^ (7 - j) % 2
/-- an address's bits -/
def bit (xs : List Int) (i : Nat) : Int := bit8 (xs.getD (i / 8) 0) (i % 8)

def comAt (xs ys : List Int) : Nat → Nat → Nat
  | 0, i => i
  | f + 1, i => if bit xs i = bit ys i then comAt xs ys f (i + 1) else i
/-- how many bits both have alike -/
def com (xs ys : List Int) : Nat := comAt xs ys 128 0

theorem comAt_of {xs ys : List Int} {n : Nat} : ∀ (f i : Nat), i ≤ n → n ≤ i + f → (∀ j, i ≤ j → j < n → bit xs j = bit ys j) → (n < i + f → bit xs n ≠ bit ys n) → comAt xs ys f i = n
  | 0, i, h1, h2, _, _ => by unfold comAt; omega
  | f + 1, i, h1, h2, h3, h4 => by
    unfold comAt
    by_cases e : i = n
    · subst e
      rw [if_neg (h4 (by omega))]
    · rw [if_pos (h3 i (Nat.le_refl _) (by omega))]
      exact comAt_of f (i + 1) (by omega) (by omega) (fun j hj hn => h3 j (by omega) hn) (fun h => h4 (by omega))
theorem com_of {xs ys : List Int} {n : Nat} (h2 : n ≤ 128) (h3 : ∀ j, j < n → bit xs j = bit ys j) (h4 : n < 128 → bit xs n ≠ bit ys n) : com xs ys = n :=
  comAt_of 128 0 (Nat.zero_le _) (by omega) (fun j _ hj => h3 j hj) (fun h => h4 (by omega))
theorem comAt_spec (xs ys : List Int) : ∀ (f i : Nat), i ≤ comAt xs ys f i ∧ comAt xs ys f i ≤ i + f ∧ (∀ j, i ≤ j → j < comAt xs ys f i → bit xs j = bit ys j) ∧ (comAt xs ys f i < i + f → bit xs (comAt xs ys f i) ≠ bit ys (comAt xs ys f i))
  | 0, i => by unfold comAt; exact ⟨Nat.le_refl _, Nat.le_refl _, fun j h1 h2 => by omega, fun h => by omega⟩
  | f + 1, i => by
    unfold comAt
    split
    · rename_i h
      obtain ⟨a, b, c, d⟩ := comAt_spec xs ys f (i + 1)
      refine ⟨by omega, by omega, fun j h1 h2 => ?_, fun h2 => d (by omega)⟩
      by_cases e : j = i
      · subst e; exact h
      · exact c j (by omega) h2
    · rename_i h
      exact ⟨Nat.le_refl _, by omega, fun j h1 h2 => by omega, fun _ => h⟩
theorem com_le (xs ys : List Int) : com xs ys ≤ 128 := by have := (comAt_spec xs ys 128 0).2.1; unfold com; omega
theorem com_same (xs ys : List Int) {j : Nat} (h : j < com xs ys) : bit xs j = bit ys j := (comAt_spec xs ys 128 0).2.2.1 j (Nat.zero_le _) h
theorem com_ne (xs ys : List Int) (h : com xs ys < 128) : bit xs (com xs ys) ≠ bit ys (com xs ys) := (comAt_spec xs ys 128 0).2.2.2 (by unfold com at h; omega)
theorem com_comm (xs ys : List Int) : com ys xs = com xs ys :=
  com_of (com_le _ _) (fun _ hj => (com_same xs ys hj).symm) (fun h e => com_ne xs ys h e.symm)
theorem le_com {xs ys : List Int} {n : Nat} (hn : n ≤ 128) : n ≤ com xs ys ↔ ∀ j, j < n → bit xs j = bit ys j := by
  constructor
  · intro h _ hj
    exact com_same xs ys (by omega)
  · intro h
    by_cases e : n ≤ com xs ys
    · exact e
    · exact absurd (h _ (by omega)) (com_ne xs ys (by have := com_le xs ys; omega))

theorem byte_bits {x : Int} (h : 0 ≤ x ∧ x ≤ 255) : x = 128 * bit8 x 0 + 64 * bit8 x 1 + 32 * bit8 x 2 + 16 * bit8 x 3 + 8 * bit8 x 4 + 4 * bit8 x 5 + 2 * bit8 x 6 + bit8 x 7 := by
  unfold bit8
  simp only [Nat.sub_zero, Nat.reduceSub, Int.reducePow]
  omega
theorem byte_ext {x y : Int} (hx : 0 ≤ x ∧ x ≤ 255) (hy : 0 ≤ y ∧ y ≤ 255) (h : ∀ j, j < 8 → bit8 x j = bit8 y j) : x = y := by
  rw [byte_bits hx, byte_bits hy, h 0 (by omega), h 1 (by omega), h 2 (by omega), h 3 (by omega), h 4 (by omega), h 5 (by omega), h 6 (by omega), h 7 (by omega)]

theorem getD_byt {xs : List Int} (h : Byt xs) (i : Nat) : 0 ≤ xs.getD i 0 ∧ xs.getD i 0 ≤ 255 := by
  rw [List.getD_eq_getElem?_getD]
  cases e : xs[i]? with
  | none => simp
  | some z => simpa using h z (List.mem_of_getElem? e)
theorem Ok.at {xs : List Int} (h : Ok xs) (i : Nat) : 0 ≤ xs.getD i 0 ∧ xs.getD i 0 ≤ 255 := getD_byt h.byt i

/-- addresses with the same bits are the same -/
theorem ext {xs ys : List Int} (hx : Ok xs) (hy : Ok ys) (h : ∀ j, j < 128 → bit xs j = bit ys j) : xs = ys := by
  apply List.ext_getElem?
  intro i
  by_cases hi : i < 16
  · have e : xs.getD i 0 = ys.getD i 0 := byte_ext (hx.at i) (hy.at i) (fun j hj => by
      have := h (8 * i + j) (by omega)
      unfold bit at this
      rw [show (8 * i + j) / 8 = i by omega, show (8 * i + j) % 8 = j by omega] at this
      exact this)
    have h1 := hx.len
    have h2 := hy.len
    rw [List.getElem?_eq_getElem (by omega), List.getElem?_eq_getElem (by omega)]
    simpa [List.getD, List.getElem?_eq_getElem, h1, h2, hi] using e
  · rw [List.getElem?_eq_none (by have := hx.len; omega), List.getElem?_eq_none (by have := hy.len; omega)]
theorem com_all {xs ys : List Int} (hx : Ok xs) (hy : Ok ys) : com xs ys = 128 ↔ xs = ys := by
  constructor
  · intro h
    exact ext hx hy (fun j hj => com_same xs ys (by omega))
  · rintro rfl
    exact com_of (Nat.le_refl _) (fun _ _ => rfl) (fun h => by omega)

/-- a byte of whose bits the first k are left -/
def mb (x : Int) (k : Nat) : Int := x / 2 ^ (8 - k) * 2 ^ (8 - k)
theorem mb_big (x : Int) {k : Nat} (h : 8 ≤ k) : mb x k = x := by
  unfold mb
  rw [show 8 - k = 0 by omega]
  simp
theorem lt8 {j : Nat} (h : j < 8) : j = 0 ∨ j = 1 ∨ j = 2 ∨ j = 3 ∨ j = 4 ∨ j = 5 ∨ j = 6 ∨ j = 7 := by omega
theorem mb_bit (x : Int) (k : Nat) {j : Nat} (hj : j < 8) : bit8 (mb x k) j = if j < k then bit8 x j else 0 := by
  by_cases hk : 8 ≤ k
  · rw [mb_big x hk, if_pos (by omega)]
  · unfold mb bit8
    rcases lt8 hj with rfl | rfl | rfl | rfl | rfl | rfl | rfl | rfl <;> rcases lt8 (show k < 8 by omega) with rfl | rfl | rfl | rfl | rfl | rfl | rfl | rfl <;> simp <;> omega
theorem mb_byt {x : Int} (h : 0 ≤ x ∧ x ≤ 255) (k : Nat) : 0 ≤ mb x k ∧ mb x k ≤ 255 := by
  by_cases hk : 8 ≤ k
  · rw [mb_big x hk]; exact h
  · unfold mb
    rcases lt8 (show k < 8 by omega) with rfl | rfl | rfl | rfl | rfl | rfl | rfl | rfl <;> simp <;> omega

/-- an address of whose bits the first b are left -/
def msk (xs : List Int) (b : Nat) : List Int := (List.range 16).map fun i => mb (xs.getD i 0) (b - 8 * i)
theorem msk_len (xs : List Int) (b : Nat) : (msk xs b).length = 16 := by simp [msk]
theorem msk_at (xs : List Int) (b : Nat) {i : Nat} (h : i < 16) : (msk xs b).getD i 0 = mb (xs.getD i 0) (b - 8 * i) := by
  simp [msk, List.getD, h]
theorem msk_ok {xs : List Int} (h : Ok xs) (b : Nat) : Ok (msk xs b) := by
  refine ⟨msk_len xs b, fun z hz => ?_⟩
  obtain ⟨i, _, rfl⟩ := List.mem_map.1 hz
  exact mb_byt (h.at i) _
theorem msk_bit {xs : List Int} (_ : Ok xs) (b : Nat) {j : Nat} (hj : j < 128) : bit (msk xs b) j = if j < b then bit xs j else 0 := by
  unfold bit
  rw [msk_at xs b (show j / 8 < 16 by omega), mb_bit _ _ (show j % 8 < 8 by omega)]
  by_cases hb : j < b
  · rw [if_pos hb, if_pos (by omega)]
  · rw [if_neg hb, if_neg (by omega)]
theorem msk_min {xs : List Int} (h : Ok xs) (b : Nat) : msk xs (min b 128) = msk xs b :=
  ext (msk_ok h _) (msk_ok h _) (fun j hj => by
    rw [msk_bit h _ hj, msk_bit h _ hj]
    by_cases hb : j < b
    · rw [if_pos hb, if_pos (by omega)]
    · rw [if_neg hb, if_neg (by omega)])
/-- who has the first bits in common is the same, masked by them -/
theorem within_iff {xs ys : List Int} (hx : Ok xs) (hy : Ok ys) (b : Nat) : min b 128 ≤ com xs ys ↔ msk xs b = msk ys b := by
  rw [le_com (by omega)]
  constructor
  · intro h
    refine ext (msk_ok hx _) (msk_ok hy _) (fun j hj => ?_)
    rw [msk_bit hx _ hj, msk_bit hy _ hj]
    by_cases hb : j < b
    · rw [if_pos hb, if_pos hb]; exact h j (by omega)
    · rw [if_neg hb, if_neg hb]
  · intro h j hj
    have h1 := msk_bit hx b (show j < 128 by omega)
    have h2 := msk_bit hy b (show j < 128 by omega)
    rw [if_pos (by omega)] at h1 h2
    rw [← h1, ← h2, h]
theorem msk_msk {xs : List Int} (hx : Ok xs) (a b : Nat) : msk (msk xs a) b = msk xs (min a b) :=
  ext (msk_ok (msk_ok hx _) _) (msk_ok hx _) (fun j hj => by
    rw [msk_bit (msk_ok hx _) _ hj, msk_bit hx _ hj, msk_bit hx _ hj]
    by_cases ha : j < a <;> by_cases hb : j < b <;> simp [ha, hb] <;> omega)
theorem com_msk {xs : List Int} (hx : Ok xs) (a : Nat) : min a 128 ≤ com xs (msk xs a) := by
  rw [le_com (by omega)]
  intro j hj
  rw [msk_bit hx _ (by omega), if_pos (by omega)]
theorem msk_all {xs : List Int} (hx : Ok xs) : msk xs 128 = xs :=
  ext (msk_ok hx _) hx (fun j hj => by rw [msk_bit hx _ hj, if_pos hj])
def nil : List Int := [0, 0, 0, 0, 0, 0, 0, 0, 0, 0, 0, 0, 0, 0, 0, 0]
theorem msk_none {xs : List Int} (hx : Ok xs) : msk xs 0 = nil := by
  have h : ∀ i, mb (xs.getD i 0) 0 = 0 := fun i => by
    have := hx.at i
    unfold mb
    simp only [Nat.sub_zero, Int.reducePow]
    omega
  simp only [msk, Nat.zero_sub, h]
  rfl

/-- a prefix, and an id -/
def ofp (ps id : List Int) : List Int := ps.take 8 ++ id
theorem ofp_ok {ps id : List Int} (hp : Ok ps) (h8 : id.length = 8) (hb : Byt id) : Ok (ofp ps id) := by
  refine ⟨by simp [ofp, hp.len, h8], fun z hz => ?_⟩
  rcases List.mem_append.1 hz with h | h
  · exact hp.byt z (List.mem_of_mem_take h)
  · exact hb z h
theorem ofp_at {ps id : List Int} (hp : Ok ps) {i : Nat} (h : i < 8) : (ofp ps id).getD i 0 = ps.getD i 0 := by
  have := hp.len
  simp [ofp, List.getD, List.getElem?_append, h, this]
  rw [List.getElem?_eq_getElem (by omega)]
  rfl
theorem ofp_id {ps id : List Int} (hp : Ok ps) (i : Nat) : (ofp ps id).getD (8 + i) 0 = id.getD i 0 := by
  have := hp.len
  simp [ofp, List.getD, List.getElem?_append, this]
  rw [if_neg (by omega)]
theorem ofp_bit {ps id : List Int} (hp : Ok ps) {j : Nat} (h : j < 64) : bit (ofp ps id) j = bit ps j := by
  unfold bit
  rw [ofp_at hp (by omega)]
theorem com_ofp {ps id : List Int} (hp : Ok ps) : 64 ≤ com (ofp ps id) ps := by
  rw [le_com (by omega)]
  intro j hj
  exact ofp_bit hp hj
theorem ofp_eq {ps qs id : List Int} (hp : Ok ps) (hq : Ok qs) (h8 : id.length = 8) (hb : Byt id) : ofp ps id = ofp qs id ↔ 64 ≤ com ps qs := by
  rw [le_com (by omega)]
  constructor
  · intro h j hj
    rw [← ofp_bit hp (id := id) hj, ← ofp_bit hq (id := id) hj, h]
  · intro h
    refine ext (ofp_ok hp h8 hb) (ofp_ok hq h8 hb) (fun j hj => ?_)
    by_cases h64 : j < 64
    · rw [ofp_bit hp h64, ofp_bit hq h64]; exact h j h64
    · unfold bit
      obtain ⟨i, hi⟩ : ∃ i, j / 8 = 8 + i := ⟨j / 8 - 8, by omega⟩
      rw [hi, ofp_id hp, ofp_id hq]

/-- the solicited address -/
def sol (xs : List Int) : List Int := [255, 2, 0, 0, 0, 0, 0, 0, 0, 0, 0, 1, 255, xs.getD 13 0, xs.getD 14 0, xs.getD 15 0]
theorem sol_ok {xs : List Int} (h : Ok xs) : Ok (sol xs) := by
  refine ⟨rfl, fun z hz => ?_⟩
  have a := h.at 13
  have b := h.at 14
  have c := h.at 15
  simp only [sol, List.mem_cons, List.not_mem_nil, or_false] at hz
  omega

/-! Bytes -/
theorem fin256 {p : Int → Prop} (h : ∀ k : Fin 256, p ((k.1 : Nat) : Int)) {x : Int} (hx : 0 ≤ x ∧ x ≤ 255) : p x := by
  obtain ⟨k, rfl⟩ := Int.eq_ofNat_of_zero_le hx.1
  exact h ⟨k, by omega⟩
theorem and_high {x : Int} (hx : 0 ≤ x ∧ x ≤ 255) : bits .and .u8 x 192 = x / 64 * 64 :=
  fin256 (p := fun x => bits .and .u8 x 192 = x / 64 * 64) (by decide +kernel) hx
theorem and_low {x : Int} (hx : 0 ≤ x ∧ x ≤ 255) : bits .and .u8 x 15 = x % 16 :=
  fin256 (p := fun x => bits .and .u8 x 15 = x % 16) (by decide +kernel) hx
theorem and_one {x : Int} (hx : 0 ≤ x ∧ x ≤ 255) : bits .and .u8 x 1 = x % 2 :=
  fin256 (p := fun x => bits .and .u8 x 1 = x % 2) (by decide +kernel) hx
theorem clear_low {x : Int} (hx : 0 ≤ x ∧ x ≤ 255) {k : Nat} (hk : k ≤ 8) : bits .andNot .u8 x (255 / 2 ^ k) = mb x k :=
  fin256 (p := fun x => ∀ k : Fin 9, bits .andNot .u8 x (255 / 2 ^ k.1) = mb x k.1) (by decide +kernel) hx ⟨k, by omega⟩
theorem set_bit {x : Int} (hx : 0 ≤ x ∧ x ≤ 255) {k : Nat} (hk : k < 8) : bits .or .u8 (mb x k) (bit8 x k * 2 ^ (7 - k)) = mb x (k + 1) :=
  fin256 (p := fun x => ∀ k : Fin 8, bits .or .u8 (mb x k.1) (bit8 x k.1 * 2 ^ (7 - k.1)) = mb x (k.1 + 1)) (by decide +kernel) hx ⟨k, hk⟩
/-- how many bits two bytes have in common -/
theorem lead {x y : Int} (hx : 0 ≤ x ∧ x ≤ 255) (hy : 0 ≤ y ∧ y ≤ 255) (h : x ≠ y) : ∃ n : Nat, n < 8 ∧ (8 - (Lib.bitLen (bits .xor .u8 x y).toNat : Int)) = n ∧ (∀ j, j < n → bit8 x j = bit8 y j) ∧ bit8 x n ≠ bit8 y n := by
  have hz : ∀ z : Fin 256, z.1 ≠ 0 → Lib.bitLen z.1 ≤ 8 ∧ 1 ≤ Lib.bitLen z.1 ∧ (∀ j : Fin 8, j.1 < 8 - Lib.bitLen z.1 → z.1 / 2 ^ (7 - j.1) % 2 = 0) ∧ z.1 / 2 ^ (7 - (8 - Lib.bitLen z.1)) % 2 = 1 := by decide +kernel
  obtain ⟨a, rfl⟩ := Int.eq_ofNat_of_zero_le hx.1
  obtain ⟨b, rfl⟩ := Int.eq_ofNat_of_zero_le hy.1
  have ha : a < 256 := by omega
  have hb : b < 256 := by omega
  have hw : a ^^^ b < 256 := Nat.xor_lt_two_pow (n := 8) ha hb
  have e : bits .xor .u8 (a : Int) (b : Int) = ((a ^^^ b : Nat) : Int) := by
    show IntKind.u8.wrap (((BitVec.ofInt 8 (a : Int) ^^^ BitVec.ofInt 8 (b : Int)).toNat : Nat) : Int) = _
    rw [BitVec.toNat_xor, BitVec.toNat_ofInt, BitVec.toNat_ofInt]
    rw [show ((a : Int) % (2 ^ 8 : Nat)).toNat = a by omega, show ((b : Int) % (2 ^ 8 : Nat)).toNat = b by omega, IntKind.wrap_u8]
    omega
  rw [e, Int.toNat_natCast]
  have hne : a ^^^ b ≠ 0 := fun h0 => h (by
    have h1 : (a ^^^ b) ^^^ b = a := by rw [Nat.xor_assoc, Nat.xor_self, Nat.xor_zero]
    rw [h0, Nat.zero_xor] at h1
    rw [h1])
  obtain ⟨h1, h2, h3, h4⟩ := hz ⟨a ^^^ b, hw⟩ hne
  simp only at h1 h2 h3 h4
  have hx : ∀ k, ((a ^^^ b) / 2 ^ k % 2 = 1) ↔ a / 2 ^ k % 2 ≠ b / 2 ^ k % 2 := fun k => by
    have := Nat.testBit_xor a b k
    simp only [Nat.testBit_eq_decide_div_mod_eq] at this
    have h5 := Nat.mod_two_eq_zero_or_one (a / 2 ^ k)
    have h6 := Nat.mod_two_eq_zero_or_one (b / 2 ^ k)
    rcases h5 with h5 | h5 <;> rcases h6 with h6 | h6 <;> simp [h5, h6] at this ⊢ <;> exact this
  have hc : ∀ (c k : Nat), ((c : Int) / 2 ^ k % 2) = ((c / 2 ^ k % 2 : Nat) : Int) := fun c k => by simp
  refine ⟨8 - Lib.bitLen (a ^^^ b), by omega, by omega, fun j hj => ?_, ?_⟩
  · have h5 := h3 ⟨j, by omega⟩ hj
    simp only at h5
    have h6 := hx (7 - j)
    unfold bit8
    rw [hc, hc]
    by_cases h7 : a / 2 ^ (7 - j) % 2 = b / 2 ^ (7 - j) % 2
    · rw [h7]
    · have := h6.2 h7
      omega
  · have h6 := (hx _).1 h4
    unfold bit8
    rw [hc, hc]
    omega

/-- the loopback -/
def loop : List Int := [0, 0, 0, 0, 0, 0, 0, 0, 0, 0, 0, 0, 0, 0, 0, 1]
/-- the kinds -/
def scope (xs : List Int) : Int :=
  if xs.getD 0 0 = 255 then xs.getD 1 0 % 16
  else if xs = loop ∨ (xs.getD 0 0 = 254 ∧ xs.getD 1 0 / 64 = 2) then 2
  else if xs = nil then 0 else 14

end Go.Proofs.YthkiamkhignchaaDoor.Ad
