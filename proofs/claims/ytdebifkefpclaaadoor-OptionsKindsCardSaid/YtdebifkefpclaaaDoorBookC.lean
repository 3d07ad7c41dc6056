/-
  Apart, of a book of lists of bytes that share no cell, their room too: true; below the lists' own blocks nothing has changed.
  Conditions: at most 120 lists, each in a block of bytes that may be written.
-/
import Derived.Test.YtdebifkefpclaaaDoorBookB
namespace Go.Proofs.YtdebifkefpclaaaDoor
open Go.RowKit

theorem m_fill (v : Value) (w : World) : (method 273 92 v "sojourner/sojournerlaw01.fill").run Tryd.prog w = .ok (142, v) w := by kernel_rfl
theorem m_room (v : Value) (w : World) : (method 273 92 v "sojourner/sojournerlaw01.fillRoom").run Tryd.prog w = .ok (143, v) w := by kernel_rfl
theorem m_kept (v : Value) (w : World) : (method 273 92 v "sojourner/sojournerlaw01.kept").run Tryd.prog w = .ok (144, v) w := by kernel_rfl

/-- two lists share no cell -/
def Dis (L M : Leaf) : Prop := ∀ b o o', L.A = some ⟨b, o, none⟩ → M.A = some ⟨b, o', none⟩ → o + L.c ≤ o' ∨ o' + M.c ≤ o ∨ L.c = 0 ∨ M.c = 0

/-- the book's notes, and how far the signs are written: j1 lists have theirs, j2 of them in their room too -/
structure Inv (B : Nat) (w0 w : World) (k : Nat) (LA : Option Addr) (lc : Nat) (Ls : List Leaf) (j1 j2 : Nat) : Prop where
  bel : Below B w0 w
  bs : B ≤ w.heap.size
  book : ∃ cs, Row w k 37 cs
  at0 : w.cell? ⟨k, 0, none⟩ = some (.slice LA Ls.length lc)
  notes : ∀ i L, Ls[i]? = some L → ∃ la cs, LA = some ⟨la, 0, none⟩ ∧ Row w la 94 cs ∧ w.cell? ⟨la, i, none⟩ = some (leafV L)
  wide : ∀ (i : Nat) L, Ls[i]? = some L → Wide w L.A L.n L.c
  dis : ∀ (i j : Nat) L M, Ls[i]? = some L → Ls[j]? = some M → i ≠ j → Dis L M
  own : ∀ (i : Nat) L a, Ls[i]? = some L → L.A = some a → B ≤ a.block
  ins : ∀ (i : Nat) L, Ls[i]? = some L → i < j1 → ∀ b o, L.A = some ⟨b, o, none⟩ → ∀ t, t < L.n → w.cell? ⟨b, o + t, none⟩ = some (.int .u8 L.x)
  rooms : ∀ (i : Nat) L, Ls[i]? = some L → i < j2 → ∀ b o, L.A = some ⟨b, o, none⟩ → ∀ t, t < L.c - L.n → w.cell? ⟨b, o + L.n + t, none⟩ = some (.int .u8 L.y)

theorem wide_wr {w w' : World} {A A' : Option Addr} {lo m n c : Nat} {v : Value} (h : Wide w A' n c) (hw : Wr w w' A lo m v) : Wide w' A' n c := by
  refine ⟨h.1, h.2.1, fun h0 => ?_⟩
  obtain ⟨b, o, cs, e, hr, ho⟩ := h.2.2 h0
  obtain ⟨cs', hr', hs⟩ := hw.rows b _ cs hr
  exact ⟨b, o, cs', e, hr', by omega⟩
theorem row_ne {w : World} {g g' : Nat} {t t' : TypeId} {cs cs' : Array Value} (h : Row w g t cs) (h' : Row w g' t' cs') (hne : t ≠ t') : g ≠ g' := by
  rintro rfl
  unfold Row at h h'
  rw [h] at h'
  injection h' with h'
  injection h' with _ ht
  exact hne ht

section
variable {B : Nat} {w0 w w' : World} {k : Nat} {LA : Option Addr} {lc : Nat} {Ls : List Leaf} {j1 j2 j lo m : Nat} {L : Leaf} {v : Value}
/-- what a list's own writing leaves alone, of the book's notes and of the other lists' -/
theorem Inv.wr (h : Inv B w0 w k LA lc Ls j1 j2) (hL : Ls[j]? = some L) (hw : Wr w w' L.A lo m v) (hm : lo + m ≤ L.c) :
    Below B w0 w' ∧ B ≤ w'.heap.size ∧ (∃ cs, Row w' k 37 cs) ∧ w'.cell? ⟨k, 0, none⟩ = some (.slice LA Ls.length lc) ∧
    (∀ i L, Ls[i]? = some L → ∃ la cs, LA = some ⟨la, 0, none⟩ ∧ Row w' la 94 cs ∧ w'.cell? ⟨la, i, none⟩ = some (leafV L)) ∧ (∀ (i : Nat) L, Ls[i]? = some L → Wide w' L.A L.n L.c) ∧
    (∀ (i : Nat) M, Ls[i]? = some M → i ≠ j → ∀ b o, M.A = some ⟨b, o, none⟩ → ∀ t, t < M.c → w'.cell? ⟨b, o + t, none⟩ = w.cell? ⟨b, o + t, none⟩) := by
  have hW := h.wide j L hL
  have hne : ∀ g t cs, Row w g t cs → t ≠ 5 → ∀ i, w'.cell? ⟨g, i, none⟩ = w.cell? ⟨g, i, none⟩ := by
    intro g t cs hr ht i
    refine hw.out g i hr.lt (fun b o e hb hx => ?_)
    obtain ⟨b', o', cs', e', hr', _⟩ := hW.2.2 (by omega)
    rw [e] at e'
    injection e' with e'
    injection e' with e1 e2
    subst e1
    exact row_ne hr hr' ht hb
  refine ⟨⟨hw.os.trans h.bel.os, hw.tape.trans h.bel.tape, hw.output.trans h.bel.output, Nat.le_trans h.bel.size hw.size, fun g hg => ?_⟩, Nat.le_trans h.bs hw.size, ?_, ?_, ?_, ?_, ?_⟩
  · rw [hw.far g (Nat.lt_of_lt_of_le hg h.bs) (fun a ha => by have := h.own j L a hL ha; omega)]
    exact h.bel.block g hg
  · obtain ⟨cs, hr⟩ := h.book
    obtain ⟨cs', hr', _⟩ := hw.rows k _ cs hr
    exact ⟨cs', hr'⟩
  · obtain ⟨cs, hr⟩ := h.book
    rw [hne k _ cs hr (by decide)]
    exact h.at0
  · intro i M hM
    obtain ⟨la, cs, e, hr, hc⟩ := h.notes i M hM
    obtain ⟨cs', hr', _⟩ := hw.rows la _ cs hr
    exact ⟨la, cs', e, hr', by rw [hne la _ cs hr (by decide)]; exact hc⟩
  · intro i M hM
    exact wide_wr (h.wide i M hM) hw
  · intro i M hM hij b o e t ht
    have hWM := h.wide i M hM
    obtain ⟨b', o', cs', e', hr', ho'⟩ := hWM.2.2 (by omega)
    rw [e] at e'
    injection e' with e'
    injection e' with e1 e2
    subst e1 e2
    refine hw.out b (o + t) hr'.lt (fun b2 o2 e2 hb hx => ?_)
    subst hb
    rcases h.dis i j M L hM hL hij b o o2 e e2 with hd | hd | hd | hd <;> omega

theorem Inv.fill (h : Inv B w0 w k LA lc Ls j 0) (hL : Ls[j]? = some L) (hw : Wr w w' L.A 0 L.n (.int .u8 L.x)) : Inv B w0 w' k LA lc Ls (j + 1) 0 := by
  obtain ⟨a1, a2, a3, a4, a5, a6, a7⟩ := h.wr hL hw (by have := (h.wide j L hL).1; omega)
  refine ⟨a1, a2, a3, a4, a5, a6, h.dis, h.own, ?_, fun i M hM hi => absurd hi (by omega)⟩
  intro i M hM hi b o e t ht
  by_cases hij : i = j
  · subst hij
    rw [hL] at hM
    injection hM with hM
    subst hM
    have := hw.inn b o e t ht
    simpa using this
  · rw [a7 i M hM hij b o e t (by have := (h.wide i M hM).1; omega)]
    exact h.ins i M hM (by omega) b o e t ht

theorem Inv.room (h : Inv B w0 w k LA lc Ls j1 j) (hL : Ls[j]? = some L) (hw : Wr w w' L.A L.n (L.c - L.n) (.int .u8 L.y)) : Inv B w0 w' k LA lc Ls j1 (j + 1) := by
  have hLw := h.wide j L hL
  obtain ⟨a1, a2, a3, a4, a5, a6, a7⟩ := h.wr hL hw (by have := hLw.1; omega)
  refine ⟨a1, a2, a3, a4, a5, a6, h.dis, h.own, ?_, ?_⟩
  · intro i M hM hi b o e t ht
    have hMw := (h.wide i M hM).1
    by_cases hij : i = j
    · subst hij
      rw [hL] at hM
      injection hM with hM
      subst hM
      obtain ⟨b', o', cs', e', hr', ho'⟩ := hLw.2.2 (by omega)
      rw [e] at e'
      injection e' with e'
      injection e' with e1 e2
      subst e1 e2
      rw [hw.out b (o + t) hr'.lt (fun b2 o2 e2 hb hx => by rw [e] at e2; injection e2 with e2; injection e2 with e3 e4; omega)]
      exact h.ins i L hL hi b o e t ht
    · rw [a7 i M hM hij b o e t (by omega)]
      exact h.ins i M hM hi b o e t ht
  · intro i M hM hi b o e t ht
    by_cases hij : i = j
    · subst hij
      rw [hL] at hM
      injection hM with hM
      subst hM
      exact hw.inn b o e t ht
    · have := a7 i M hM hij b o e (M.n + t) (by omega)
      rw [← Nat.add_assoc] at this
      rw [this]
      exact h.rooms i M hM (by omega) b o e t ht

theorem Inv.keep (h : Inv B w0 w k LA lc Ls j1 j2) (hb : Below w.heap.size w w') : Inv B w0 w' k LA lc Ls j1 j2 := by
  refine ⟨h.bel.trans (hb.mono h.bs), Nat.le_trans h.bs hb.size, ?_, ?_, ?_, ?_, h.dis, h.own, ?_, ?_⟩
  · obtain ⟨cs, hr⟩ := h.book
    exact ⟨cs, hr.keep hb⟩
  · rw [hb.cell (block_lt_of_cell h.at0)]
    exact h.at0
  · intro i L hL
    obtain ⟨la, cs, e, hr, hc⟩ := h.notes i L hL
    exact ⟨la, cs, e, hr.keep hb, by rw [hb.cell (block_lt_of_cell hc)]; exact hc⟩
  · intro i L hL
    have hw := h.wide i L hL
    refine ⟨hw.1, hw.2.1, fun h0 => ?_⟩
    obtain ⟨b, o, cs, e, hr, ho⟩ := hw.2.2 h0
    exact ⟨b, o, cs, e, hr.keep hb, ho⟩
  · intro i L hL hi b o e t ht
    have hc := h.ins i L hL hi b o e t ht
    rw [hb.cell (block_lt_of_cell hc)]
    exact hc
  · intro i L hL hi b o e t ht
    have hc := h.rooms i L hL hi b o e t ht
    rw [hb.cell (block_lt_of_cell hc)]
    exact hc
end

set_option maxHeartbeats 2000000 in
theorem apart_walk (B : Nat) (w0 w : World) (k : Nat) (LA : Option Addr) (lc m : Nat) (Ls : List Leaf) (hm : Ls.length = m) (h120 : m ≤ 120) (hI : Inv B w0 w k LA lc Ls 0 0) :
    Calls Tryd.prog 21 #[.pointer (some ⟨k, 0, none⟩)] w fun e w' => e = .returned (.bool true) ∧ Below B w0 w' := by
  have HM := veil hm
  have HI := veil hI
  have c0 : w.cell? ⟨k, 0, none⟩ = some (.slice LA m lc) := by rw [← hm]; exact hI.at0
  clear hm hI
  go_enter Tryd.func21, Tryd.ntmps21
  go_wp2_with fail
  clear c0
  go_loopw [3] (fun i wr => ∃ j : Nat, j ≤ m ∧ i = .int .i64 j ∧ Hid (Inv B w0 wr k LA lc Ls j 0)) (fun i _ => m - (intOf i).toNat)
  case atStart => exact ⟨0, Nat.zero_le _, rfl, HI⟩
  case round =>
    obtain ⟨j, hj, rfl, hR⟩ := hrel
    have c0 : wr.cell? ⟨k, 0, none⟩ = some (.slice LA m lc) := by rw [← HM.out]; exact hR.out.at0
    by_cases hlt : j < m
    · obtain ⟨L, hL⟩ : ∃ L, Ls[j]? = some L := ⟨_, List.getElem?_eq_getElem (by rw [HM.out]; exact hlt)⟩
      obtain ⟨la, cs, rfl, _, hc⟩ := hR.out.notes j L hL
      have HF := veil (fill_any L.A L.n L.c L.x L.y wr (hR.out.wide j L hL))
      have HL := veil hL
      have hmf := m_fill
      obtain ⟨A1, n1, c1, x1, y1⟩ := L
      simp only [leafV] at hc
      simp only at HF
      clear hL
      go_wp2_with fail
      refine (HF.out).mono ?_
      rintro e w1 ⟨rfl, hw1⟩
      have hS := veil (hR.out.fill HL.out hw1)
      clear hw1 HF hR hc c0 HL hmf
      go_wp2_with fail
      go_roundw
      case rel => exact ⟨j + 1, by omega, by go_num, hS⟩
      case measure => simp [intOf]; omega
    · have e : j = m := by omega
      subst e
      go_wp2_with fail
      clear c0
      go_loopw [4] (fun i wr => ∃ t : Nat, t ≤ j ∧ i = .int .i64 t ∧ Hid (Inv B w0 wr k LA lc Ls j t)) (fun i _ => j - (intOf i).toNat)
      case atStart => exact ⟨0, Nat.zero_le _, rfl, hR⟩
      case round =>
        obtain ⟨t, ht, rfl, hR⟩ := hrel
        have c0 : wr.cell? ⟨k, 0, none⟩ = some (.slice LA j lc) := by rw [← HM.out]; exact hR.out.at0
        by_cases hlt : t < j
        · obtain ⟨L, hL⟩ : ∃ L, Ls[t]? = some L := ⟨_, List.getElem?_eq_getElem (by rw [HM.out]; exact hlt)⟩
          obtain ⟨la, cs, rfl, _, hc⟩ := hR.out.notes t L hL
          have HF := veil (fillRoom_any L.A L.n L.c L.x L.y wr (hR.out.wide t L hL))
          have HL := veil hL
          have hmf := m_room
          obtain ⟨A1, n1, c1, x1, y1⟩ := L
          simp only [leafV] at hc
          simp only at HF
          clear hL
          go_wp2_with fail
          refine (HF.out).mono ?_
          rintro e w1 ⟨rfl, hw1⟩
          have hS := veil (hR.out.room HL.out hw1)
          clear hw1 HF hR hc c0 HL hmf
          go_wp2_with fail
          go_roundw
          case rel => exact ⟨t + 1, by omega, by go_num, hS⟩
          case measure => simp [intOf]; omega
        · have e : t = j := by omega
          subst e
          go_wp2_with fail
          clear c0
          go_loopw [5] (fun i wr => ∃ u : Nat, u ≤ t ∧ i = .int .i64 u ∧ Hid (Inv B w0 wr k LA lc Ls t t)) (fun i _ => t - (intOf i).toNat)
          case atStart => exact ⟨0, Nat.zero_le _, rfl, hR⟩
          case round =>
            obtain ⟨u, hu, rfl, hR⟩ := hrel
            have c0 : wr.cell? ⟨k, 0, none⟩ = some (.slice LA t lc) := by rw [← HM.out]; exact hR.out.at0
            by_cases hlt : u < t
            · obtain ⟨L, hL⟩ : ∃ L, Ls[u]? = some L := ⟨_, List.getElem?_eq_getElem (by rw [HM.out]; exact hlt)⟩
              obtain ⟨la, cs, rfl, _, hc⟩ := hR.out.notes u L hL
              have HF := veil (kept_any L.A L.n L.c L.x L.y wr (hR.out.wide u L hL) (fun b o e => ⟨hR.out.ins u L hL hlt b o e, hR.out.rooms u L hL hlt b o e⟩))
              have hmf := m_kept
              obtain ⟨A1, n1, c1, x1, y1⟩ := L
              simp only [leafV] at hc
              simp only at HF
              clear hL
              go_wp2_with fail
              refine (HF.out).mono ?_
              rintro e w1 ⟨rfl, hw1⟩
              have hS := veil (hR.out.keep hw1)
              clear hw1 HF hR hc c0 hmf
              go_wp2_with fail
              go_roundw
              case rel => exact ⟨u + 1, by omega, by go_num, hS⟩
              case measure => simp [intOf]; omega
            · go_wp2_with fail
              go_ret
              exact ⟨rfl, hR.out.bel⟩

theorem book_new (w : World) : BookAt (w.alloc (.cells #[.slice none 0 0] 37)) w.heap.size w.heap.size [] :=
  ⟨Nat.le_refl _, _, row_new rfl, World.ownsRow_nil _ _ _ _⟩
theorem BookAt.keep {w w' : World} {base k : Nat} {Ls : List Leaf} (h : BookAt w base k Ls) (hb : Below w.heap.size w w') : BookAt w' base k Ls := by
  obtain ⟨hk, v, hr, ho⟩ := h
  exact ⟨hk, v, hr.keep hb, World.ownsRow.kept (row := none) ho ⟨hb.os, hb.tape, hb.output, hb.size, fun j hj _ => hb.block j hj⟩ (by cases v.ownBlock <;> simp)⟩
theorem BF.row {base : Nat} {w w' : World} {g : Nat} {cs : Array Value} (h : BF base w w') (hr : Row w g 5 cs) : Row w' g 5 cs := h.2 g _ cs hr (by decide) (by decide)

/-- lists that share no cell are told apart -/
theorem apart_any (B : Nat) (w0 w : World) (base k : Nat) (Ls : List Leaf) (hb : BookAt w base k Ls) (hl : Ls.length ≤ 120) (bel : Below B w0 w) (bs : B ≤ w.heap.size)
    (wide : ∀ (i : Nat) L, Ls[i]? = some L → Wide w L.A L.n L.c) (dis : ∀ (i j : Nat) L M, Ls[i]? = some L → Ls[j]? = some M → i ≠ j → Dis L M) (own : ∀ (i : Nat) L a, Ls[i]? = some L → L.A = some a → B ≤ a.block) :
    Calls Tryd.prog 21 #[.pointer (some ⟨k, 0, none⟩)] w fun e w' => e = .returned (.bool true) ∧ Below B w0 w' := by
  obtain ⟨_, v, hr, ho⟩ := hb
  have hn : ∃ LA lc, v = .slice LA Ls.length lc ∧ ∀ i L, Ls[i]? = some L → ∃ la cs, LA = some ⟨la, 0, none⟩ ∧ Row w la 94 cs ∧ w.cell? ⟨la, i, none⟩ = some (leafV L) := by
    rcases ho.2 with ⟨rfl, h0⟩ | ⟨g, cap, cur, rfl, _, hg, _, _, _, ht⟩
    · refine ⟨none, 0, by rw [h0], fun i L hL => ?_⟩
      have : i < Ls.length := (List.getElem?_eq_some_iff.1 hL).1
      omega
    · refine ⟨_, cap, rfl, fun i L hL => ⟨g, cur, rfl, hg, ?_⟩⟩
      have hi : i < Ls.length := (List.getElem?_eq_some_iff.1 hL).1
      rw [Row.cell (t := 94) hg]
      have e : (cur.toList.take (Ls.length * 1))[i]? = some (leafV L) := by rw [ht, List.getElem?_map, hL]; rfl
      rw [List.getElem?_take, if_pos (by omega)] at e
      simpa using e
  obtain ⟨LA, lc, rfl, hn⟩ := hn
  exact apart_walk B w0 w k LA lc Ls.length Ls rfl hl ⟨bel, bs, ⟨_, hr⟩, hr.cell 0, hn, wide, dis, own, fun _ _ _ h => absurd h (by omega), fun _ _ _ h => absurd h (by omega)⟩

/-- of more than 120 lists nothing is asked -/
theorem apart_many (w : World) (base k : Nat) (Ls : List Leaf) (hb : BookAt w base k Ls) (hl : 120 < Ls.length) (hm : Ls.length ≤ 100000) :
    Calls Tryd.prog 21 #[.pointer (some ⟨k, 0, none⟩)] w fun e w' => e = .returned (.bool true) ∧ w = w' := by
  obtain ⟨_, v, hr, ho⟩ := hb
  obtain ⟨A, c, rfl, _⟩ := own_slice ho
  have h0 : w.cell? ⟨k, 0, none⟩ = some (.slice A Ls.length c) := hr.cell 0
  generalize Ls.length = n at hl hm h0
  have i1 : (120 : Int) < (n : Int) := by omega
  clear hr ho hl
  go_enter Tryd.func21, Tryd.ntmps21
  go_wp2_with fail
  go_ret
  exact ⟨rfl, rfl⟩

end Go.Proofs.YtdebifkefpclaaaDoor
