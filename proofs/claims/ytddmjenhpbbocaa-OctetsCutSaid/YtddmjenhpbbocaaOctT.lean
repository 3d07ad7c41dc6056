/-
  One ask of a cutter and of the document's: they answer alike, and what is answered in memory is noted in the book.
  Conditions: both stand alike; at most 5000 bytes, at most 150 notes.
-/
import Derived.Test.YtddmjenhpbbocaaOctS
import Derived.Deep.RegionHeld3
namespace Go.Proofs.Ytddmjenhpbbocaa
open Go.RowKit

/-- the notes: each list is empty, or lies in block d ahead of place p; no two share a cell -/
def LOk (d p : Nat) (Ls : List Leaf) : Prop :=
  (∀ (i : Nat) L, Ls[i]? = some L → L.n ≤ L.c ∧ L.c ≤ 16777216 ∧ (L.c = 0 ∨ ∃ o, L.A = some ⟨d, o, none⟩ ∧ o + L.c ≤ p)) ∧ (∀ (i : Nat) L a, Ls[i]? = some L → L.A = some a → a.block = d) ∧
  (∀ (i j : Nat) L M, Ls[i]? = some L → Ls[j]? = some M → i ≠ j → Dis L M)

/-- below block B all is as in w0; bytes' blocks that were in wS are as they were there -/
def Bel (B : Nat) (w0 wS w : World) : Prop := Below B w0 w ∧ ∀ x cs, Row wS x 5 cs → Row w x 5 cs
theorem Bel.gb {B : Nat} {w0 wS w w' : World} {g : Nat} {t : TypeId} {cs : Array Value} (h : Bel B w0 wS w) (hg : w.grownBy w' (some g)) (hr : Row w g t cs) (ht : 5 ≠ t) (hB : B ≤ w.heap.size) (hg' : B ≤ g) : Bel B w0 wS w' :=
  ⟨below_gb h.1 hg hB hg', fun x cs hx => Fr.of_gb hg hr _ _ _ (h.2 x cs hx) (by simp [ht])⟩
theorem Bel.keep {B : Nat} {w0 wS w w' : World} (h : Bel B w0 wS w) (hb : Below w.heap.size w w') (hB : B ≤ w.heap.size) : Bel B w0 wS w' := ⟨h.1.trans (hb.mono hB), fun x cs hx => (h.2 x cs hx).keep hb⟩
theorem Bel.bf {B base : Nat} {w0 wS w w' : World} (h : Bel B w0 wS w) (hb : BF base w w') (hB : B ≤ base) : Bel B w0 wS w' := ⟨h.1.trans (hb.1.mono hB), fun x cs hx => hb.row (h.2 x cs hx)⟩

structure Sta (B : Nat) (w0 wS w : World) (g h d kb base : Nat) (zs : List Int) (p : Nat) (ok : Bool) (Ls : List Leaf) : Prop where
  cut : CutS w g d zs p ok
  ref : RefS w h zs p ok
  book : BookAt w base kb Ls
  lv : LOk d p Ls
  bel : Bel B w0 wS w
  bs : base ≤ w.heap.size
  lt : B ≤ g ∧ B ≤ h ∧ B ≤ base ∧ B ≤ d

theorem BookAt.gb {w w' : World} {base k g : Nat} {Ls : List Leaf} {t : TypeId} {cs : Array Value} (h : BookAt w base k Ls) (hg : w.grownBy w' (some g)) (hr : Row w g t cs) (h1 : t ≠ 32) (h2 : t ≠ 64) : BookAt w' base k Ls := by
  obtain ⟨hk, v, hb, ho⟩ := h
  exact ⟨hk, v, hb.gb hg (fun e => by injection e with e; exact row_ne hr hb h1 e.symm), World.ownsRow.kept ho hg (.inr (fun e => own_ne ho hr (fun e => h2 e.symm) e.symm))⟩

section
variable {B : Nat} {w0 wS w w' : World} {g h d kb base : Nat} {zs : List Int} {p p' : Nat} {ok ok' : Bool} {Ls : List Leaf}
theorem Sta.keep (s : Sta B w0 wS w g h d kb base zs p ok Ls) (hb : Below w.heap.size w w') : Sta B w0 wS w' g h d kb base zs p ok Ls :=
  ⟨s.cut.fr (Fr.of_below hb []) (by simp) (by simp), s.ref.fr (Fr.of_below hb []) (by simp) (by simp), s.book.keep hb, s.lv, s.bel.keep hb (Nat.le_trans s.lt.2.2.1 s.bs), Nat.le_trans s.bs hb.size, s.lt⟩
/-- the cutter has turned, the other one not yet -/
theorem Sta.turn (s : Sta B w0 wS w g h d kb base zs p ok Ls) (hg : w.grownBy w' (some g)) : RefS w' h zs p ok ∧ BookAt w' base kb Ls ∧ Bel B w0 wS w' ∧ base ≤ w'.heap.size := by
  obtain ⟨cs, hr⟩ := s.cut.row48
  exact ⟨s.ref.fr (Fr.of_gb hg hr) (by decide) (by decide), s.book.gb hg hr (by decide) (by decide), s.bel.gb hg hr (by decide) (Nat.le_trans s.lt.2.2.1 s.bs) s.lt.1, Nat.le_trans s.bs hg.size⟩
theorem turn2 (hc : CutS w g d zs p' ok') (hr : RefS w h zs p ok) (hk : BookAt w base kb Ls) (hb : Bel B w0 wS w) (hs : base ≤ w.heap.size) (lt : B ≤ g ∧ B ≤ h ∧ B ≤ base ∧ B ≤ d) (hg : w.grownBy w' (some h)) :
    CutS w' g d zs p' ok' ∧ BookAt w' base kb Ls ∧ Bel B w0 wS w' ∧ base ≤ w'.heap.size := by
  obtain ⟨cs, h39⟩ := hr.row39
  exact ⟨hc.fr (Fr.of_gb hg h39) (by decide) (by decide), hk.gb hg h39 (by decide) (by decide), hb.gb hg h39 (by decide) (Nat.le_trans lt.2.2.1 hs) lt.2.1, Nat.le_trans hs hg.size⟩
theorem LOk.mono (h : LOk d p Ls) (hp : p ≤ p') : LOk d p' Ls :=
  ⟨fun i L hL => ⟨(h.1 i L hL).1, (h.1 i L hL).2.1, by
    rcases (h.1 i L hL).2.2 with h0 | ⟨o, e, ho⟩
    · exact .inl h0
    · exact .inr ⟨o, e, by omega⟩⟩, h.2.1, h.2.2⟩
theorem numRes_le (n : Int) : p ≤ (numRes zs p ok n).2.1 := by unfold numRes; split <;> simp
theorem bytRes_le (n : Int) : p + (bytRes zs p ok n).1.length ≤ (bytRes zs p ok n).2.1 ∧ (bytRes zs p ok n).1.length ≤ zs.length := by
  unfold bytRes
  split
  · rename_i h
    simp
    omega
  · simp
end

/-- both answered alike, and stand alike -/
def One (B : Nat) (w0 wS : World) (g h d kb base : Nat) (zs : List Int) (Ls : List Leaf) (e : Ending) (w' : World) : Prop :=
  e = .returned (.bool true) ∧ ∃ p ok Ms, Sta B w0 wS w' g h d kb base zs p ok Ms ∧ Ms.length ≤ Ls.length + 1

set_option maxHeartbeats 2000000 in
theorem one_num (B : Nat) (w0 wS w : World) (g h d kb base : Nat) (zs : List Int) (p : Nat) (ok : Bool) (Ls : List Leaf) (kd n : Int) (s : Sta B w0 wS w g h d kb base zs p ok Ls) (hz : zs.length ≤ 5000) (h0 : 0 ≤ kd) (h2 : kd ≤ 255) (hk : kd % 3 = 0) :
    Calls Try.prog 13 #[.pointer (some ⟨g, 0, none⟩), .pointer (some ⟨h, 0, none⟩), .agg #[.int .u8 kd, .int .i64 n], .pointer (some ⟨kb, 0, none⟩)] w (One B w0 wS g h d kb base zs Ls) := by
  have hkk : (kd % 3 == 0) = true := beq_iff_eq.2 hk
  have HS := veil s
  clear s hk
  go_enter Try.func13, Try.ntmps13
  go_wp2_with fail
  have hA : Row (w.alloc (.cells #[.int .u8 kd, .int .i64 n] 35)) w.heap.size 35 #[.int .u8 kd, .int .i64 n] := row_new rfl
  have hS1 := HS.out.keep (below_new w (.cells #[.int .u8 kd, .int .i64 n] 35))
  generalize w.alloc (.cells #[.int .u8 kd, .int .i64 n] 35) = w1 at hA hS1 ⊢
  generalize w.heap.size = e0 at hA ⊢
  have c1 : w1.cell? ⟨e0, 1, none⟩ = some (.int .i64 n) := hA.cell 1
  have HA : Hid (Row w1.drew e0 35 #[.int .u8 kd, .int .i64 n]) := hA
  have HC1 : Hid (w1.drew.cell? ⟨e0, 1, none⟩ = some (.int .i64 n)) := c1
  have HS1 : Hid (Sta B w0 wS w1.drew g h d kb base zs p ok Ls) := hS1.keep ⟨rfl, rfl, rfl, Nat.le_refl _, fun _ _ => rfl⟩
  have hY := veil hS1.cut.2.1
  clear hA hS1 HS
  go_region_held3 (fun w' => w'.cell? ⟨e0, 1, none⟩ = some (.int .i64 n)) (go_keep)
    (first
      | (go_at_call 23
         refine (HS1.out.cut.numS n).mono ?_
         rintro e w2 ⟨rfl, hg2, hc2⟩
         have T2 := veil (HS1.out.turn hg2)
         obtain ⟨cs, h48⟩ := HS1.out.cut.row48
         have c2 : w2.cell? ⟨e0, 1, none⟩ = some (.int .i64 n) := hg2.cell HC1.out (fun e => by injection e with e; exact row_ne HA.out h48 (by decide) e)
         have HA2 : Hid (Row w2 e0 35 #[.int .u8 kd, .int .i64 n]) := Row.gb HA.out hg2 (fun e => by injection e with e; exact row_ne HA.out h48 (by decide) e)
         have C2 := veil hc2
         clear hg2 hc2 h48)
      | (go_at_call 26
         refine (T2.out.1.numS hz hY.out n).mono ?_
         rintro e w3 ⟨rfl, hg3, hr3⟩
         have T3 := veil (turn2 C2.out T2.out.1 T2.out.2.1 T2.out.2.2.1 T2.out.2.2.2 HS1.out.lt hg3)
         obtain ⟨cs, h39⟩ := T2.out.1.row39
         have c3 : w3.cell? ⟨e0, 1, none⟩ = some (.int .i64 n) := hg3.cell c2 (fun e => by injection e with e; exact row_ne HA2.out h39 (by decide) e)
         have R3 := veil hr3
         clear hg3 hr3 h39))
  go_wp2_with fail
  go_ret
  exact ⟨by simp, _, _, Ls, ⟨T3.out.1, R3.out, T3.out.2.1, HS1.out.lv.mono (numRes_le n), T3.out.2.2.1, T3.out.2.2.2, HS1.out.lt⟩, by omega⟩

theorem LOk.more {d p p' : Nat} {Ls : List Leaf} {A : Option Addr} {xs : List Int} {x y : Int} (h : LOk d p Ls) (hA : A = none ∨ ∃ o, A = some ⟨d, o, none⟩ ∧ (xs ≠ [] → o = p)) (hp : p + xs.length ≤ p') (hx : xs.length ≤ 5000) (hne : xs ≠ [] → A ≠ none) :
    LOk d p' (Ls ++ [⟨A, xs.length, xs.length, x, y⟩]) := by
  have hxs : xs.length ≠ 0 → xs ≠ [] := fun h e => by subst e; exact h rfl
  have hcase : ∀ (i : Nat) L, (Ls ++ [(⟨A, xs.length, xs.length, x, y⟩ : Leaf)])[i]? = some L → (Ls[i]? = some L ∧ i < Ls.length) ∨ (i = Ls.length ∧ L = ⟨A, xs.length, xs.length, x, y⟩) := by
    intro i L hL
    by_cases hi : i < Ls.length
    · left
      rw [List.getElem?_append_left hi] at hL
      exact ⟨hL, hi⟩
    · right
      rw [List.getElem?_append_right (by omega)] at hL
      have h0 : i - Ls.length = 0 := by
        have := (List.getElem?_eq_some_iff.1 hL).1
        simp at this
        omega
      rw [h0] at hL
      simp at hL
      exact ⟨by omega, hL.symm⟩
  have hnew : ∀ (i : Nat) L, Ls[i]? = some L → ∀ b o o', L.A = some ⟨b, o, none⟩ → A = some ⟨b, o', none⟩ → o + L.c ≤ o' ∨ L.c = 0 ∨ xs.length = 0 := by
    intro i L hL b o o' e1 e2
    rcases (h.1 i L hL).2.2 with h0 | ⟨o2, e3, ho⟩
    · exact .inr (.inl h0)
    · by_cases hk : xs.length = 0
      · exact .inr (.inr hk)
      · left
        rcases hA with hA | ⟨o3, e4, ho3⟩
        · exact absurd hA (hne (hxs hk))
        · rw [e1] at e3
          injection e3 with e3
          injection e3 with e5 e6
          rw [e2] at e4
          injection e4 with e4
          injection e4 with e7 e8
          have := ho3 (hxs hk)
          omega
  refine ⟨?_, ?_, ?_⟩
  · intro i L hL
    rcases hcase i L hL with ⟨hL, _⟩ | ⟨_, rfl⟩
    · exact (h.mono (by omega)).1 i L hL
    · refine ⟨Nat.le_refl _, by simp; omega, ?_⟩
      by_cases hk : xs.length = 0
      · exact .inl hk
      · right
        rcases hA with hA | ⟨o3, e4, ho3⟩
        · exact absurd hA (hne (hxs hk))
        · exact ⟨o3, e4, by have := ho3 (hxs hk); simp; omega⟩
  · intro i L a hL ha
    rcases hcase i L hL with ⟨hL, _⟩ | ⟨_, rfl⟩
    · exact h.2.1 i L a hL ha
    · rcases hA with hA | ⟨o3, e4, ho3⟩
      · simp only at ha
        rw [hA] at ha
        cases ha
      · simp only at ha
        rw [e4] at ha
        injection ha with ha
        subst ha
        rfl
  · intro i j L M hL hM hij b o o' e1 e2
    rcases hcase i L hL with ⟨hL, _⟩ | ⟨hi, rfl⟩
    · rcases hcase j M hM with ⟨hM, _⟩ | ⟨hj, rfl⟩
      · exact h.2.2 i j L M hL hM hij b o o' e1 e2
      · rcases hnew i L hL b o o' e1 e2 with h1 | h1 | h1
        · exact .inl h1
        · exact .inr (.inr (.inl h1))
        · exact .inr (.inr (.inr h1))
    · rcases hcase j M hM with ⟨hM, _⟩ | ⟨hj, rfl⟩
      · rcases hnew j M hM b o' o e2 e1 with h1 | h1 | h1
        · exact .inr (.inl h1)
        · exact .inr (.inr (.inr h1))
        · exact .inr (.inr (.inl h1))
      · omega

set_option maxHeartbeats 2000000 in
theorem one_bytes (B : Nat) (w0 wS w : World) (g h d kb base : Nat) (zs : List Int) (p : Nat) (ok : Bool) (Ls : List Leaf) (kd n : Int) (s : Sta B w0 wS w g h d kb base zs p ok Ls) (hz : zs.length ≤ 5000) (hLs : Ls.length ≤ 150) (h0 : 0 ≤ kd) (h2 : kd ≤ 255) (hk : kd % 3 = 1) :
    Calls Try.prog 13 #[.pointer (some ⟨g, 0, none⟩), .pointer (some ⟨h, 0, none⟩), .agg #[.int .u8 kd, .int .i64 n], .pointer (some ⟨kb, 0, none⟩)] w (One B w0 wS g h d kb base zs Ls) := by
  have hk0 : (kd % 3 == 0) = false := beq_eq_false_iff_ne.2 (by omega)
  have hk1 : (kd % 3 == 1) = true := beq_iff_eq.2 hk
  have HS := veil s
  have HLs := veil hLs
  have HZ := veil hz
  clear s hk hLs hz
  go_enter Try.func13, Try.ntmps13
  go_wp2_with fail
  have hA : Row (w.alloc (.cells #[.int .u8 kd, .int .i64 n] 35)) w.heap.size 35 #[.int .u8 kd, .int .i64 n] := row_new rfl
  have hS1 := HS.out.keep (below_new w (.cells #[.int .u8 kd, .int .i64 n] 35))
  generalize w.alloc (.cells #[.int .u8 kd, .int .i64 n] 35) = w1 at hA hS1 ⊢
  generalize w.heap.size = e0 at hA ⊢
  have HA := veil hA
  have HS1 := veil hS1
  clear hA hS1 HS
  refine (HS1.out.cut.bytS n).mono ?_
  rintro e w2 ⟨A2, rfl, hA2, hne2, hb2, hg2, hc2⟩
  have T2 := veil (HS1.out.turn hg2)
  obtain ⟨cs, h48⟩ := HS1.out.cut.row48
  have hA2' := HA.out.gb hg2 (fun e => by injection e with e; exact row_ne HA.out h48 (by decide) e)
  have c2 : w2.cell? ⟨e0, 1, none⟩ = some (.int .i64 n) := hA2'.cell 1
  have C2 := veil hc2
  have B2 := veil hb2
  have A2h := veil (And.intro hA2 hne2)
  have hlen := bytRes_le (zs := zs) (p := p) (ok := ok) n
  generalize hres : bytRes zs p ok n = res at C2 B2 A2h hlen ⊢
  have HRES := veil hres
  obtain ⟨xs, p2, ok2⟩ := res
  simp only at C2 B2 A2h hlen ⊢
  have hx5 : xs.length ≤ 5000 := by have := HZ.out; omega
  have HLEN := veil hlen
  clear hg2 hc2 h48 hA2 hne2 hb2 hres hlen hA2'
  generalize hm : xs.length = m at hx5 ⊢
  have HM := veil hm
  clear hm
  go_wp2_with fail
  refine (T2.out.1.bytS HZ.out n).mono ?_
  rw [HRES.out]
  rintro e w3 ⟨A3, m3, c3, rfl, hm3, ho3, hg3, hr3⟩
  simp only at hm3 ho3 hr3
  have T3 := veil (turn2 C2.out T2.out.1 T2.out.2.1 T2.out.2.2.1 T2.out.2.2.2 HS1.out.lt hg3)
  obtain ⟨cs3, h39⟩ := T2.out.1.row39
  have B3 := veil (B2.out.fr (Fr.of_gb hg3 h39) (by decide))
  have R3 := veil hr3
  have O3 := veil ho3
  obtain rfl : m3 = m := by have := HM.out; omega
  clear hg3 hr3 h39 hm3 ho3 c2 T2 B2 C2
  go_wp2_with fail
  refine (note_any w3 base kb Ls A2 m3 m3 T3.out.2.1 (by have := HLs.out; omega) T3.out.2.2.2).mono ?_
  rintro e w4 ⟨rfl, ⟨x4, y4, hb4⟩, hf4⟩
  have hF := Fr.of_bf hf4
  have C4 := veil (T3.out.1.fr hF (by decide) (by decide))
  have R4 := veil (R3.out.fr hF (by decide) (by decide))
  have S4 := veil (B3.out.fr hF (by decide)).rd
  have D4 : Hid (Rd w4 A3 xs) := by
    have hown := O3.out
    rcases hown.2 with ⟨e1, e2⟩ | ⟨g', cap, cur, e1, _, hg', _, _, _, ht⟩
    · have : xs = [] := List.eq_nil_of_length_eq_zero e2
      subst this
      exact fun j hj => absurd hj (by simp)
    · injection e1 with e1 _ _
      subst e1
      have hrow : Row w4 g' 5 cur := hf4.row (show Row w3 g' 5 cur from hg')
      refine rd_row (l := cur.toList) (by simpa using hrow) (fun j hj => ?_)
      have e := bv_get xs j hj
      rw [← ht, List.getElem?_take, if_pos (by omega)] at e
      simpa using e
  have L4 := veil (T3.out.2.2.1.bf hf4 HS1.out.lt.2.2.1)
  have Z4 := veil (Nat.le_trans T3.out.2.2.2 hf4.1.size)
  have K4 := veil hb4
  clear hb4 hf4 hF T3 R3 B3 O3
  go_wp2_with fail
  refine (sameBytes_eq A2 A3 m3 m3 c3 xs w4 HM.out (by unfold maxLen; omega) S4.out D4.out).mono ?_
  rintro e w5 ⟨rfl, hw5⟩
  have hq := below_still (Below.refl w4.heap.size w4) hw5
  have hfin : Sta B w0 wS w4 g h d kb base zs p2 ok2 (Ls ++ [⟨A2, m3, m3, x4, y4⟩]) := by
    refine ⟨C4.out, R4.out, K4.out, ?_, L4.out, Z4.out, HS1.out.lt⟩
    have := HS1.out.lv.more (x := x4) (y := y4) A2h.out.1 HLEN.out.1 (by rw [HM.out]; exact hx5) A2h.out.2
    rwa [HM.out] at this
  have HF := veil (hfin.keep hq)
  clear hw5 hq hfin
  go_wp2_with fail
  go_ret
  exact ⟨rfl, _, _, _, HF.out, by simp⟩

set_option maxHeartbeats 2000000 in
theorem one_rest (B : Nat) (w0 wS w : World) (g h d kb base : Nat) (zs : List Int) (p : Nat) (ok : Bool) (Ls : List Leaf) (kd n : Int) (s : Sta B w0 wS w g h d kb base zs p ok Ls) (hz : zs.length ≤ 5000) (hLs : Ls.length ≤ 150) (h0 : 0 ≤ kd) (h2 : kd ≤ 255) (hk : kd % 3 = 2) :
    Calls Try.prog 13 #[.pointer (some ⟨g, 0, none⟩), .pointer (some ⟨h, 0, none⟩), .agg #[.int .u8 kd, .int .i64 n], .pointer (some ⟨kb, 0, none⟩)] w (One B w0 wS g h d kb base zs Ls) := by
  have hk0 : (kd % 3 == 0) = false := beq_eq_false_iff_ne.2 (by omega)
  have hk1 : (kd % 3 == 1) = false := beq_eq_false_iff_ne.2 (by omega)
  have HS := veil s
  have HLs := veil hLs
  have HZ := veil hz
  clear s hk hLs hz
  go_enter Try.func13, Try.ntmps13
  go_wp2_with fail
  have hA : Row (w.alloc (.cells #[.int .u8 kd, .int .i64 n] 35)) w.heap.size 35 #[.int .u8 kd, .int .i64 n] := row_new rfl
  have hS1 := HS.out.keep (below_new w (.cells #[.int .u8 kd, .int .i64 n] 35))
  generalize w.alloc (.cells #[.int .u8 kd, .int .i64 n] 35) = w1 at hA hS1 ⊢
  generalize w.heap.size = e0 at hA ⊢
  have HA := veil hA
  have HS1 := veil hS1
  clear hA hS1 HS
  refine (HS1.out.cut.restS).mono ?_
  rintro e w2 ⟨A2, rfl, hA2, hne2, hb2, hg2, hc2⟩
  have T2 := veil (HS1.out.turn hg2)
  obtain ⟨cs, h48⟩ := HS1.out.cut.row48
  have hA2' := HA.out.gb hg2 (fun e => by injection e with e; exact row_ne HA.out h48 (by decide) e)
  have c2 : w2.cell? ⟨e0, 1, none⟩ = some (.int .i64 n) := hA2'.cell 1
  have C2 := veil hc2
  have B2 := veil hb2
  have A2h := veil (And.intro hA2 hne2)
  have hlen := bytRes_le (zs := zs) (p := p) (ok := ok) ((zs.length - p : Nat) : Int)
  generalize hres : bytRes zs p ok ((zs.length - p : Nat) : Int) = res at C2 B2 A2h hlen ⊢
  have HRES := veil hres
  obtain ⟨xs, p2, ok2⟩ := res
  simp only at C2 B2 A2h hlen ⊢
  have hx5 : xs.length ≤ 5000 := by have := HZ.out; omega
  have HLEN := veil hlen
  clear hg2 hc2 h48 hA2 hne2 hb2 hres hlen hA2'
  generalize hm : xs.length = m at hx5 ⊢
  have HM := veil hm
  clear hm
  go_wp2_with fail
  refine (T2.out.1.restS HZ.out).mono ?_
  rw [HRES.out]
  rintro e w3 ⟨A3, m3, c3, rfl, hm3, ho3, hg3, hr3⟩
  simp only at hm3 ho3 hr3
  have T3 := veil (turn2 C2.out T2.out.1 T2.out.2.1 T2.out.2.2.1 T2.out.2.2.2 HS1.out.lt hg3)
  obtain ⟨cs3, h39⟩ := T2.out.1.row39
  have B3 := veil (B2.out.fr (Fr.of_gb hg3 h39) (by decide))
  have R3 := veil hr3
  have O3 := veil ho3
  obtain rfl : m3 = m := by have := HM.out; omega
  clear hg3 hr3 h39 hm3 ho3 c2 T2 B2 C2
  go_wp2_with fail
  refine (note_any w3 base kb Ls A2 m3 m3 T3.out.2.1 (by have := HLs.out; omega) T3.out.2.2.2).mono ?_
  rintro e w4 ⟨rfl, ⟨x4, y4, hb4⟩, hf4⟩
  have hF := Fr.of_bf hf4
  have C4 := veil (T3.out.1.fr hF (by decide) (by decide))
  have R4 := veil (R3.out.fr hF (by decide) (by decide))
  have S4 := veil (B3.out.fr hF (by decide)).rd
  have D4 : Hid (Rd w4 A3 xs) := by
    have hown := O3.out
    rcases hown.2 with ⟨e1, e2⟩ | ⟨g', cap, cur, e1, _, hg', _, _, _, ht⟩
    · have : xs = [] := List.eq_nil_of_length_eq_zero e2
      subst this
      exact fun j hj => absurd hj (by simp)
    · injection e1 with e1 _ _
      subst e1
      have hrow : Row w4 g' 5 cur := hf4.row (show Row w3 g' 5 cur from hg')
      refine rd_row (l := cur.toList) (by simpa using hrow) (fun j hj => ?_)
      have e := bv_get xs j hj
      rw [← ht, List.getElem?_take, if_pos (by omega)] at e
      simpa using e
  have L4 := veil (T3.out.2.2.1.bf hf4 HS1.out.lt.2.2.1)
  have Z4 := veil (Nat.le_trans T3.out.2.2.2 hf4.1.size)
  have K4 := veil hb4
  clear hb4 hf4 hF T3 R3 B3 O3
  go_wp2_with fail
  refine (sameBytes_eq A2 A3 m3 m3 c3 xs w4 HM.out (by unfold maxLen; omega) S4.out D4.out).mono ?_
  rintro e w5 ⟨rfl, hw5⟩
  have hq := below_still (Below.refl w4.heap.size w4) hw5
  have hfin : Sta B w0 wS w4 g h d kb base zs p2 ok2 (Ls ++ [⟨A2, m3, m3, x4, y4⟩]) := by
    refine ⟨C4.out, R4.out, K4.out, ?_, L4.out, Z4.out, HS1.out.lt⟩
    have := HS1.out.lv.more (x := x4) (y := y4) A2h.out.1 HLEN.out.1 (by rw [HM.out]; exact hx5) A2h.out.2
    rwa [HM.out] at this
  have HF := veil (hfin.keep hq)
  clear hw5 hq hfin
  go_wp2_with fail
  go_ret
  exact ⟨rfl, _, _, _, HF.out, by simp⟩

/-- one ask, whatever it is -/
theorem one_any (B : Nat) (w0 wS w : World) (g h d kb base : Nat) (zs : List Int) (p : Nat) (ok : Bool) (Ls : List Leaf) (kd n : Int) (s : Sta B w0 wS w g h d kb base zs p ok Ls) (hz : zs.length ≤ 5000) (hLs : Ls.length ≤ 150) (h0 : 0 ≤ kd) (h2 : kd ≤ 255) :
    Calls Try.prog 13 #[.pointer (some ⟨g, 0, none⟩), .pointer (some ⟨h, 0, none⟩), .agg #[.int .u8 kd, .int .i64 n], .pointer (some ⟨kb, 0, none⟩)] w (One B w0 wS g h d kb base zs Ls) := by
  by_cases hk0 : kd % 3 = 0
  · exact one_num B w0 wS w g h d kb base zs p ok Ls kd n s hz h0 h2 hk0
  · by_cases hk1 : kd % 3 = 1
    · exact one_bytes B w0 wS w g h d kb base zs p ok Ls kd n s hz hLs h0 h2 hk1
    · exact one_rest B w0 wS w g h d kb base zs p ok Ls kd n s hz hLs h0 h2 (by omega)

end Go.Proofs.Ytddmjenhpbbocaa
