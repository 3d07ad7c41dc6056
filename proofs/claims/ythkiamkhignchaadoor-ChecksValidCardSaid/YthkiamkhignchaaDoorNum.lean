/-
  Numbers and bytes, without a program: the number that bytes tell, the highest one first; the bytes of a number; each from the other.
  Conditions: none.
-/
import Derived.WalkKit
namespace Go.Proofs.YthkiamkhignchaaDoor
open Go.RowKit

def Byt (zs : List Int) : Prop := ∀ z ∈ zs, 0 ≤ z ∧ z ≤ 255

/-- the number that bytes tell, the highest one first -/
def num (l : List Int) : Int := l.foldl (fun a x => 256 * a + x) 0

theorem num_snoc (l : List Int) (x : Int) : num (l ++ [x]) = 256 * num l + x := by simp [num]

theorem take_next (zs : List Int) (j : Nat) (h : j < zs.length) : zs.take (j + 1) = zs.take j ++ [zs.getD j 0] := by
  rw [List.take_succ_eq_append_getElem h]
  simp [List.getD, h]

theorem num_next (zs : List Int) (j : Nat) (h : j < zs.length) : num (zs.take (j + 1)) = 256 * num (zs.take j) + zs.getD j 0 := by
  rw [take_next zs j h, num_snoc]

theorem Byt.at_ {zs : List Int} (h : Byt zs) (j : Nat) : 0 ≤ zs.getD j 0 ∧ zs.getD j 0 ≤ 255 := by
  rcases Nat.lt_or_ge j zs.length with hj | hj
  · have e : zs.getD j 0 = zs[j] := by simp [List.getD, hj]
    rw [e]
    exact h _ (List.getElem_mem hj)
  · have e : zs.getD j 0 = 0 := by simp [List.getD, List.getElem?_eq_none hj]
    omega

theorem Byt.take {zs : List Int} (h : Byt zs) (k : Nat) : Byt (zs.take k) := fun z hz => h z (List.mem_of_mem_take hz)

theorem Byt.drop {zs : List Int} (h : Byt zs) (k : Nat) : Byt (zs.drop k) := fun z hz => h z (List.mem_of_mem_drop hz)

theorem num_bound (zs : List Int) (h : Byt zs) : ∀ j, j ≤ zs.length → 0 ≤ num (zs.take j) ∧ num (zs.take j) < 256 ^ j
  | 0, _ => by simp [num]
  | j + 1, hj => by
    have ih := num_bound zs h j (by omega)
    have hx := h.at_ j
    rw [num_next zs j (by omega), Int.pow_succ]
    omega

theorem num_bound8 (zs : List Int) (h : Byt zs) (j : Nat) (hj : j ≤ zs.length) (h7 : j ≤ 7) : 0 ≤ num (zs.take j) ∧ num (zs.take j) < 72057594037927936 := by
  have hb := num_bound zs h j hj
  refine ⟨hb.1, Int.lt_of_lt_of_le hb.2 ?_⟩
  have : (256 : Nat) ^ j ≤ 256 ^ 7 := Nat.pow_le_pow_right (by omega) h7
  have e : ((256 ^ j : Nat) : Int) = (256 : Int) ^ j := by simp
  omega

/-- a byte more, as the machine reckons it -/
theorem or_step (a x : Int) (h0 : 0 ≤ a) (h1 : a < 72057594037927936) (h2 : 0 ≤ x) (h3 : x ≤ 255) : bits .or .u64 (IntKind.u64.wrap (a * 256)) (IntKind.u64.wrap x) = 256 * a + x := by
  obtain ⟨a, rfl⟩ := Int.eq_ofNat_of_zero_le h0
  obtain ⟨x, rfl⟩ := Int.eq_ofNat_of_zero_le h2
  have e1 : IntKind.u64.wrap ((a : Int) * 256) = ((a * 256 : Nat) : Int) := by rw [IntKind.wrap_u64]; omega
  have e2 : IntKind.u64.wrap (x : Int) = ((x : Nat) : Int) := by rw [IntKind.wrap_u64]; omega
  rw [e1, e2, u64_or_nat _ _ (by omega) (by omega)]
  have e3 : a * 256 ||| x = a * 256 + x := by
    have := Nat.shiftLeft_add_eq_or_of_lt (a := a) (b := x) (i := 8) (by omega)
    rw [Nat.shiftLeft_eq] at this
    simpa using this.symm
  rw [e3]
  omega

/-- the last k bytes of a number, the highest one first -/
def be (n : Int) : Nat → List Int
  | 0 => []
  | k + 1 => n / 256 ^ k % 256 :: be n k

theorem be_length (n : Int) : ∀ k, (be n k).length = k
  | 0 => rfl
  | k + 1 => by simp [be, be_length n k]

theorem be_byt (n : Int) : ∀ k, Byt (be n k)
  | 0 => by simp [Byt, be]
  | k + 1 => by
    intro z hz
    simp only [be, List.mem_cons] at hz
    rcases hz with rfl | hz
    · omega
    · exact be_byt n k z hz

theorem pow_pos256 (k : Nat) : 0 < (256 : Int) ^ k := Int.pow_pos (by omega)

/-- 1 << (8 * k), as the machine reckons it, for a width below 8 -/
theorem wide_pow (k : Nat) (h : k ≤ 7) : IntKind.u64.wrap ((2 : Int) ^ (8 * k)) = 256 ^ k := by
  have e : (2 : Int) ^ (8 * k) = 256 ^ k := by rw [Int.pow_mul]; rfl
  have hb : (256 : Nat) ^ k ≤ 256 ^ 7 := Nat.pow_le_pow_right (by omega) h
  have hc : ((256 ^ k : Nat) : Int) = (256 : Int) ^ k := by simp
  have hp := pow_pos256 k
  rw [e, IntKind.wrap_u64]
  omega

theorem num_cons (x : Int) (l : List Int) : num (x :: l) = 256 ^ l.length * x + num l := by
  have : ∀ (l : List Int) (a : Int), l.foldl (fun a x => 256 * a + x) a = 256 ^ l.length * a + num l := by
    intro l
    induction l with
    | nil => intro a; simp [num]
    | cons y l ih =>
      intro a
      have e : num (y :: l) = l.foldl (fun a x => 256 * a + x) (256 * 0 + y) := rfl
      rw [List.foldl_cons, ih, e, ih, List.length_cons, Int.pow_succ, Int.mul_add, Int.mul_add, Int.mul_assoc]
      omega
  have h := this l x
  have e : num (x :: l) = l.foldl (fun a x => 256 * a + x) (256 * 0 + x) := rfl
  rw [e, this, Int.mul_zero, Int.zero_add]

/-- what is put is cut again, as far as it fits -/
theorem num_be (n : Int) (hn : 0 ≤ n) : ∀ k, num (be n k) = n % 256 ^ k
  | 0 => by simp [be, num]
  | k + 1 => by
    rw [be, num_cons, be_length, num_be n hn k, Int.pow_succ]
    have hp := pow_pos256 k
    have h1 := Int.emod_add_mul_ediv n (256 ^ k)
    have h2 := Int.emod_add_mul_ediv n (256 ^ k * 256)
    have h3 : n / (256 ^ k * 256) = n / 256 ^ k / 256 := by rw [Int.ediv_ediv_of_nonneg (by omega)]
    have h4 := Int.emod_add_mul_ediv (n / 256 ^ k) 256
    rw [h3] at h2
    have e : n % (256 ^ k * 256) = n - 256 ^ k * 256 * (n / 256 ^ k / 256) := by omega
    have e2 : n / 256 ^ k % 256 = n / 256 ^ k - 256 * (n / 256 ^ k / 256) := by omega
    rw [e, e2, Int.mul_sub, ← Int.mul_assoc]
    omega

/-- less, told by the first byte in which they part -/
def lessB : List Int → List Int → Bool
  | x :: l, y :: r => if x < y then true else if y < x then false else lessB l r
  | _, _ => false

theorem less_num : ∀ (l r : List Int), l.length = r.length → Byt l → Byt r → (lessB l r = decide (num l < num r)) ∧ (decide (l = r) = decide (num l = num r))
  | [], [], _, _, _ => by simp [lessB]
  | x :: l, y :: r, h, hl, hr => by
    have h' : l.length = r.length := by simpa using h
    have ih := less_num l r h' (fun z hz => hl z (by simp [hz])) (fun z hz => hr z (by simp [hz]))
    have b1 := num_bound l (fun z hz => hl z (by simp [hz])) l.length (Nat.le_refl _)
    have b2 := num_bound r (fun z hz => hr z (by simp [hz])) r.length (Nat.le_refl _)
    rw [List.take_length] at b1 b2
    rw [← h'] at b2
    rw [num_cons, num_cons, ← h']
    have hp := pow_pos256 l.length
    generalize (256 : Int) ^ l.length = D at *
    rcases Int.lt_trichotomy x y with hxy | hxy | hxy
    · have hm : D * (x + 1) ≤ D * y := Int.mul_le_mul_of_nonneg_left (by omega) (by omega)
      rw [Int.mul_add] at hm
      have e1 : D * x + num l < D * y + num r := by omega
      have e2 : ¬ (D * x + num l = D * y + num r) := by omega
      simp [lessB, hxy, e1, e2]
      omega
    · subst hxy
      have e1 : (D * x + num l < D * x + num r) ↔ (num l < num r) := by omega
      have e2 : (D * x + num l = D * x + num r) ↔ (num l = num r) := by omega
      simp only [lessB, Int.lt_irrefl, if_false, ih.1, e1, e2, List.cons.injEq, true_and]
      exact ih.2
    · have hm : D * (y + 1) ≤ D * x := Int.mul_le_mul_of_nonneg_left (by omega) (by omega)
      rw [Int.mul_add] at hm
      have e0 : ¬ x < y := by omega
      have e1 : ¬ (D * x + num l < D * y + num r) := by omega
      have e2 : ¬ (D * x + num l = D * y + num r) := by omega
      simp [lessB, e0, hxy, e1, e2]
      omega

def u8s (l : List Int) : List UInt8 := l.map fun n => UInt8.ofNat n.toNat

theorem u8_lt (x y : Int) (hx : 0 ≤ x ∧ x ≤ 255) (hy : 0 ≤ y ∧ y ≤ 255) : (UInt8.ofNat x.toNat < UInt8.ofNat y.toNat ↔ x < y) ∧ (UInt8.ofNat x.toNat = UInt8.ofNat y.toNat ↔ x = y) := by
  constructor
  · rw [UInt8.lt_iff_toNat_lt, UInt8.toNat_ofNat', UInt8.toNat_ofNat']
    omega
  · rw [← UInt8.toNat_inj, UInt8.toNat_ofNat', UInt8.toNat_ofNat']
    omega

theorem bytesLess_u8s : ∀ (l r : List Int), l.length = r.length → Byt l → Byt r → Op.bytesLess (u8s l) (u8s r) = lessB l r ∧ (u8s l == u8s r) = decide (l = r)
  | [], [], _, _, _ => by simp [u8s, lessB, Op.bytesLess]
  | x :: l, y :: r, h, hl, hr => by
    have ih := bytesLess_u8s l r (by simpa using h) (fun z hz => hl z (by simp [hz])) (fun z hz => hr z (by simp [hz]))
    have hx := u8_lt x y (hl x (by simp)) (hr y (by simp))
    have hxy : (UInt8.ofNat x.toNat == UInt8.ofNat y.toNat) = decide (x = y) := by
      rw [Bool.eq_iff_iff]
      simp [hx.2]
    constructor
    · simp only [u8s, List.map_cons, Op.bytesLess, lessB]
      have e := ih.1
      unfold u8s at e
      rw [e, hxy]
      by_cases h1 : x < y
      · simp [h1, hx.1]
      · by_cases h2 : y < x
        · have h3 : ¬ x = y := by omega
          simp [h1, hx.1, h2, h3]
        · have h3 : x = y := by omega
          subst h3
          simp
    · have e := ih.2
      unfold u8s at e
      simp only [u8s, List.map_cons, List.cons_beq_cons, e, hxy]
      rw [Bool.eq_iff_iff]
      simp

theorem be_at (n : Int) : ∀ (k i : Nat), i < k → (be n k).take (i + 1) = (be n k).take i ++ [n / 256 ^ (k - 1 - i) % 256]
  | 0, i, h => absurd h (by omega)
  | k + 1, 0, _ => by simp [be]
  | k + 1, i + 1, h => by
    have ih := be_at n k i (by omega)
    have e : k + 1 - 1 - (i + 1) = k - 1 - i := by omega
    simp only [be, List.take_succ_cons, List.cons_append, e]
    rw [ih]

theorem wrap_pow (k : Nat) (h : k ≤ 7) : IntKind.u64.wrap ((256 : Int) ^ k) = 256 ^ k := by
  have e := wide_pow k h
  rwa [Int.pow_mul] at e

/-- a byte of a number, as the machine reckons it -/
theorem quo_byte (n p : Int) (h0 : 0 ≤ n) (h1 : n < 256 ^ 8) (hp : 0 < p) : (IntKind.u64.wrap (n.tdiv p)).tmod 256 % 256 = n / p % 256 := by
  have e8 : (256 : Int) ^ 8 = 18446744073709551616 := by decide
  have hd : 0 ≤ n / p := Int.ediv_nonneg h0 (by omega)
  have hle : n / p ≤ n := Int.ediv_le_self p h0
  rw [Int.tdiv_eq_ediv_of_nonneg h0, IntKind.wrap_u64, Int.emod_eq_of_lt hd (by omega), Int.tmod_eq_emod_of_nonneg hd]
  omega

end Go.Proofs.YthkiamkhignchaaDoor
