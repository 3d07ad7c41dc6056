/-
  What the heap's Push, Remove and Fix do to a queue of timers; the queue's move and take.
  Conditions: at most 256 timers.
-/
import Derived.Test.YtkjgmimfnmilfaaTmrD
namespace Go.Proofs.Ytkjgmimfnmilfaa.Tm5
open Go.RowKit Go.Proofs.Ytkjgmimfnmilfaa.Ops

/-- a queue that is a heap, its map in step -/
def Hq (w : World) (q b : Nat) (A : Option Addr) (n c : Nat) (l : List Tm) : Prop := Qs w q b A n c l ∧ HP l n
theorem Qs.len {w : World} {q b : Nat} {A : Option Addr} {n c : Nat} {l : List Tm} (h : Qs w q b A n c l) : l.length = n := by obtain ⟨f, h, _⟩ := h; exact h.len
theorem Qs.lim {w : World} {q b : Nat} {A : Option Addr} {n c : Nat} {l : List Tm} (h : Qs w q b A n c l) : n ≤ 256 := by obtain ⟨f, h, _⟩ := h; exact h.lim
theorem Qs.kn {w : World} {q b : Nat} {A : Option Addr} {n c : Nat} {l : List Tm} (h : Qs w q b A n c l) : Kn l := by obtain ⟨f, _, h⟩ := h; exact h.kn
theorem Qs.kept {w w' : World} {q b : Nat} {A : Option Addr} {n c : Nat} {l : List Tm} {F : List Nat} (h : Qs w q b A n c l) (k : Kept F w w') (hF : ∀ x ∈ Foot q b A, x ∉ F) : Qs w' q b A n c l := by
  obtain ⟨f, h1, h2⟩ := h
  exact ⟨f, h1.kept k hF, h2⟩

theorem len_q {w : World} {q b : Nat} {A : Option Addr} {n c : Nat} {l : List Tm} (h : Qs w q b A n c l) :
    Calls Try.prog 29 #[.pointer (some ⟨q, 0, none⟩)] w fun e w' => e = .returned (.int .i64 n) ∧ w = w' := by
  obtain ⟨f, h, _⟩ := h
  exact qlen_any h

def Pushed (w w' : World) (q b : Nat) (A : Option Addr) (n : Nat) (l : List Tm) (x : Tm) : Prop :=
  ∃ A' c' l', Hq w' q b A' (n + 1) c' l' ∧ (∀ y, y ∈ l' ↔ y = x ∨ y ∈ l) ∧ Kept (Foot q b A) w w' ∧ ∀ z ∈ Foot q b A', z ∈ Foot q b A ∨ w.heap.size ≤ z

theorem hpush_any {w : World} {q b : Nat} {A : Option Addr} {n c : Nat} {l : List Tm} {x : Tm} (h : Hq w q b A n c l) (hx : x.ok) (hn : n < 256) (hf : ∀ y ∈ l, y.k ≠ x.k) :
    Calls Try.prog 28 #[.iface 38 (.pointer (some ⟨q, 0, none⟩)), .iface 61 (.agg (tv x).toArray)] w fun e w' => e = .returned (.tuple #[]) ∧ Pushed w w' q b A n l x := by
  obtain ⟨⟨f, hq, hp⟩, hh⟩ := h
  have hl := hq.len
  have hfx : f x.k = none := by
    cases e : f x.k with
    | none => rfl
    | some i =>
      obtain ⟨h1, h2⟩ := hp.2 _ _ e
      exact absurd h2 (hf _ (ix_mem h1))
  have HC := veil (qpush_any hq hx hn)
  have HP1 := veil (by have := pl_push hp hfx; rw [hl] at this; exact this)
  have HU := veil (heap_push (x := x) hh hl)
  have HL := veil hl
  clear hq hp hh hl hfx hf hx
  have hm := m_push
  go_enter Try.func28, Try.ntmps28
  go_wp2_with fail
  clear hm
  refine (HC.out).mono ?_
  rintro e w1 ⟨rfl, A', c', h1, h2, h3⟩
  have H1 : Hid (Qs w1 q b A' (n + 1) c' (l ++ [x])) := ⟨_, h1, HP1.out⟩
  have K1 := veil h2
  have N1 := veil h3
  clear h1 h2 h3 HC
  have hm := m_len
  go_wp2_with fail
  clear hm
  refine (len_q H1.out).mono ?_
  rintro e w2 ⟨rfl, rfl⟩
  have e0 : ((n : Int) + 1 - 1) = (n : Int) := by omega
  go_wp2_with fail
  refine (up_any H1.out (n + 1) n (by omega) (by omega) (by omega) HU.out (by simp [HL.out])).mono ?_
  rintro e w2 ⟨rfl, l', h1, h2, h3, h4⟩
  have Z : Hid (Pushed w w2 q b A n l x) := ⟨A', c', l', ⟨h1, h2⟩, fun y => by rw [h3.2.1]; simp [or_comm], K1.out.trans h4 N1.out, N1.out⟩
  clear h1 h2 h3 h4
  go_wp2_with fail
  go_end0
  exact ⟨rfl, Z.out⟩

/-- what Fix leaves -/
theorem fix_any {w : World} {q b : Nat} {A : Option Addr} {n c : Nat} {l : List Tm} (h : Qs w q b A n c l) (i : Nat) (hi : i < n) (hd : Dn l n i) :
    Calls Try.prog 33 #[.iface 38 (.pointer (some ⟨q, 0, none⟩)), .int .i64 i] w fun e w' => e = .returned (.tuple #[]) ∧ Done w w' q b A n c l n := by
  have hlim := h.lim
  have HL := veil h.len
  have HC := veil (down_any h n i hi (Nat.le_refl _) hlim hd h.len)
  have H := veil h
  clear h hd
  have hm := m_len
  go_enter Try.func33, Try.ntmps33
  go_wp2_with fail
  clear hm
  refine (len_q H.out).mono ?_
  rintro e w2 ⟨rfl, rfl⟩
  go_wp2_with fail
  refine (HC.out).mono ?_
  rintro e w1 (⟨rfl, hd⟩ | ⟨rfl, l1, h1, h2, h3, h4⟩)
  · have HD := veil hd
    clear hd HC
    go_wp2_with fail
    go_end0
    exact ⟨rfl, HD.out⟩
  · have H1 := veil h1
    have H2 := veil h2
    have H3 := veil h3
    have H4 := veil h4
    clear h1 h2 h3 h4 HC
    go_wp2_with fail
    refine (up_any H1.out n i hi (Nat.le_refl _) hlim H2.out (by rw [H3.out.1]; exact HL.out)).mono ?_
    rintro e w2 ⟨rfl, l2, g1, g2, g3, g4⟩
    have Z : Hid (Done w w2 q b A n c l n) := ⟨l2, g1, g2, ⟨g3.1.trans H3.out.1, fun y => (g3.2.1 y).trans (H3.out.2.1 y), fun k hk => (g3.2.2 k hk).trans (H3.out.2.2 k hk)⟩, H4.out.trans' g4⟩
    clear g1 g2 g3 g4
    go_wp2_with fail
    go_end0
    exact ⟨rfl, Z.out⟩

/-- what Remove leaves: the last one is gone from the list, not from the map -/
def Removed (w w' : World) (q b : Nat) (A : Option Addr) (n c : Nat) (l : List Tm) (x : Tm) : Prop :=
  ∃ l' f, Qu w' q b A n c l' f ∧ Pl (l' ++ [x]) f ∧ HP l' n ∧ (∀ y, y ∈ l' ++ [x] ↔ y ∈ l) ∧ Kept (Foot q b A) w w'

theorem snoc_of {l : List Tm} {n : Nat} (h : l.length = n + 1) : l = l.take n ++ [ix l n] := by
  have hx : ix l n = l[n] := by unfold ix; rw [List.getD_eq_getElem?_getD, List.getElem?_eq_getElem (by omega)]; rfl
  rw [hx]
  have := List.take_succ_eq_append_getElem (l := l) (i := n) (by omega)
  rw [← this, List.take_of_length_le (by omega)]

theorem pop_q {w w0 : World} {q b : Nat} {A : Option Addr} {n c : Nat} {l l0 : List Tm} {x : Tm} (h : Qs w q b A (n + 1) c l) (hh : HP l n) (hx : ix l n = x) (hs : ∀ y, y ∈ l ↔ y ∈ l0) (hk : Kept (Foot q b A) w0 w) :
    Calls Try.prog 53 #[.pointer (some ⟨q, 0, none⟩)] w fun e w' => e = .returned (.iface 61 (.agg (tv x).toArray)) ∧ Removed w0 w' q b A n c l0 x := by
  have hl := h.len
  have e := snoc_of hl
  rw [hx] at e
  have hl' : (l.take n).length = n := by simp; omega
  generalize l.take n = l1 at *
  subst e
  obtain ⟨f, hq, hp⟩ := h
  refine (pop_any hq).mono ?_
  rintro e w' ⟨rfl, h1, h2⟩
  refine ⟨rfl, l1, f, h1, hp, ?_, hs, hk.trans' h2⟩
  rw [← hl'] at hh ⊢
  exact heap_take hh

set_option maxHeartbeats 1000000 in
theorem remove_any {w : World} {q b : Nat} {A : Option Addr} {n c : Nat} {l : List Tm} (h : Hq w q b A (n + 1) c l) (i : Nat) (hi : i ≤ n) :
    Calls Try.prog 32 #[.iface 38 (.pointer (some ⟨q, 0, none⟩)), .int .i64 i] w fun e w' => e = .returned (.iface 61 (.agg (tv (ix l i)).toArray)) ∧ Removed w w' q b A n c l (ix l i) := by
  have hlim := h.1.lim
  have HL := veil h.1.len
  have H := veil h.1
  have HH := veil h.2
  clear h
  have hm := m_len
  have e0 : ((n : Int) + 1 - 1) = (n : Int) := by omega
  by_cases hin : i = n
  · have HI := veil hin
    have ht : ((n : Int) != (i : Int)) = false := by simp; omega
    have ht' : (n != i) = false := by simp; omega
    clear hin
    go_enter Try.func32, Try.ntmps32
    go_wp2_with fail
    clear hm
    refine (len_q H.out).mono ?_
    rintro e w2 ⟨rfl, rfl⟩
    have hm := m_pop
    go_wp2_with fail
    clear hm
    refine (pop_q (x := ix l i) H.out (heap_mono HH.out (by omega)) (by rw [HI.out]) (fun _ => Iff.rfl) (Kept.refl _ _)).mono ?_
    rintro e w2 ⟨rfl, h2⟩
    have Z := veil h2
    clear h2
    go_wp2_with fail
    go_ret
    exact ⟨rfl, Z.out⟩
  · have hi' : i < n := by omega
    have ht : ((n : Int) != (i : Int)) = true := by simp; omega
    have ht' : (n != i) = true := by simp; omega
    have HD := veil (heap_swap HH.out HL.out hi')
    have HX := veil (show ix (sw l i n) n = ix l i from ix_sw_j (by rw [HL.out]; omega) (by rw [HL.out]; omega))
    have HM : Hid (∀ y, y ∈ sw l i n ↔ y ∈ l) := fun y => sw_mem (by rw [HL.out]; omega) (by rw [HL.out]; omega) y
    have HL2 : Hid ((sw l i n).length = n + 1) := by show _ = _; rw [sw_length, HL.out]
    clear hin
    go_enter Try.func32, Try.ntmps32
    go_wp2_with fail
    clear hm
    refine (len_q H.out).mono ?_
    rintro e w2 ⟨rfl, rfl⟩
    have hm := m_swap
    go_wp2_with fail
    clear hm
    refine (swap_eq H.out i n (by omega) (by omega) (by omega)).mono ?_
    rintro e w2 ⟨rfl, h2, k2⟩
    have H2 := veil h2
    have K2 := veil k2
    clear h2 k2
    go_wp2_with fail
    refine (down_any H2.out n i hi' (by omega) hlim HD.out HL2.out).mono ?_
    rintro e w3 (⟨rfl, l3, g1, g2, g3, g4⟩ | ⟨rfl, l3, g1, g2, g3, g4⟩)
    · have G1 := veil g1
      have G2 := veil g2
      have G3 := veil g3
      have K3 := veil (K2.out.trans' g4)
      clear g1 g2 g3 g4
      have hm := m_pop
      go_wp2_with fail
      clear hm
      refine (pop_q (x := ix l i) G1.out G2.out (by rw [G3.out.2.2 n (Nat.le_refl _), HX.out]) (fun y => (G3.out.2.1 y).trans (HM.out y)) K3.out).mono ?_
      rintro e w4 ⟨rfl, h4⟩
      have Z := veil h4
      clear h4
      go_wp2_with fail
      go_ret
      exact ⟨rfl, Z.out⟩
    · have G1 := veil g1
      have G2 := veil g2
      have G3 := veil g3
      have K3 := veil (K2.out.trans' g4)
      clear g1 g2 g3 g4
      go_wp2_with fail
      refine (up_any G1.out n i hi' (by omega) hlim G2.out (by rw [G3.out.1, HL2.out])).mono ?_
      rintro e w4 ⟨rfl, l4, f1, f2, f3, f4⟩
      have F1 := veil f1
      have F2 := veil f2
      have F3 := veil f3
      have K4 := veil (K3.out.trans' f4)
      clear f1 f2 f3 f4
      have hm := m_pop
      go_wp2_with fail
      clear hm
      refine (pop_q (x := ix l i) F1.out F2.out (by rw [F3.out.2.2 n (Nat.le_refl _), G3.out.2.2 n (Nat.le_refl _), HX.out]) (fun y => ((F3.out.2.1 y).trans (G3.out.2.1 y)).trans (HM.out y)) K4.out).mono ?_
      rintro e w5 ⟨rfl, h5⟩
      have Z := veil h5
      clear h5
      go_wp2_with fail
      go_ret
      exact ⟨rfl, Z.out⟩

end Go.Proofs.Ytkjgmimfnmilfaa.Tm5
