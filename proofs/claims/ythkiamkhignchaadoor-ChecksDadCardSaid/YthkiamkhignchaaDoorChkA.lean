/-
  The conditions of messages, by the code: what each function answers, whatever packet and message it is handed.
  Conditions: the known addresses lie in their table; the message's options are read.
-/
import Derived.Test.YthkiamkhignchaaDoorMsgM
import Derived.Test.YthkiamkhignchaaDoorAdrL
import Derived.Test.YthkiamkhignchaaDoorOpoS
import Derived.Deep.CutRange
namespace Go.Proofs.YthkiamkhignchaaDoor.Ck
set_option maxRecDepth 100000
open Go.RowKit Ops Hd Oz Mg
open Ad (Knw kn kn_len kn_ok Ok mult ll sol sol_ok isMulticast_any isLinkLocal_any solicited_any unspecified_any eql_any neq_any)

/-- the table, and blocks that are known whole -/
structure Kw (w0 w : World) (L : List Blk) : Prop where
  k0 : Knw w0
  lay : Lay w0 w L
section
variable {w0 w w' : World} {L : List Blk} {g o : Nat} {t : TypeId} {cs vs : List Value}
theorem Kw.knw (h : Kw w0 w L) : Knw w := h.k0.keep h.lay.below
theorem Kw.begin (h : Knw w) : Kw w w [] := ⟨h, Lay.begin w⟩
theorem Kw.keep (h : Kw w0 w L) (q : Below w.heap.size w w') : Kw w0 w' L := ⟨h.k0, h.lay.keep q⟩
theorem Kw.drew (h : Kw w0 w L) : Kw w0 w.drew L := ⟨h.k0, h.lay.drew⟩
theorem Kw.new (h : Kw w0 w L) (cs : List Value) (t : TypeId) (hg : g = w.heap.size) : Kw w0 (w.alloc (.cells cs.toArray t)) ((g, t, cs) :: L) := ⟨h.k0, h.lay.new cs t hg⟩
theorem Kw.put (h : Kw w0 w L) (i : Nat) (hi : L[i]? = some (g, t, cs)) (cs' : List Value) : Kw w0 (w.setRow g cs'.toArray) (L.set i (g, t, cs')) := ⟨h.k0, h.lay.put i hi cs'⟩
theorem Kw.cell (h : Kw w0 w L) (i : Nat) (hi : L[i]? = some (g, t, cs)) (o : Nat) (u : Value) : Kw w0 (w.setCell ⟨g, o, none⟩ u) (L.set i (g, t, cs.set o u)) := ⟨h.k0, h.lay.cell i hi o u⟩
theorem Kw.sub {L' : List Blk} (h : Kw w0 w L) (s : L'.Sublist L) : Kw w0 w L' := ⟨h.k0, h.lay.sub s⟩
theorem Kw.below (h : Kw w0 w L) : Below w0.heap.size w0 w := h.lay.below
theorem Kw.rng (h : Kw w0 w L) : ∀ x ∈ L, w.rangeAt x.1 0 x.2.2 := fun _ hx => h.lay.range hx (part_all _)
theorem part_rng (h : w.rangeAt g 0 cs) (hp : Part cs o vs) : w.rangeAt g o vs := fun j v hj => by
  have := h (o + j) v (hp j v hj)
  rwa [Nat.zero_add] at this
end

/-- the options of a message, read -/
structure Op1 (w : World) (v : Value) (os : List (Int × List Int)) : Prop where
  ex : ∃ A c, v = .slice A os.length c ∧ Reads w A os
  n : os.length ≤ 140737488355328
theorem Op1.keep {w w' : World} {v : Value} {os : List (Int × List Int)} (h : Op1 w v os) (q : Below w.heap.size w w') : Op1 w' v os := by
  obtain ⟨A, c, e, hr⟩ := h.ex
  exact ⟨⟨A, c, e, hr.keep q⟩, h.n⟩
theorem Op1.drew {w : World} {v : Value} {os : List (Int × List Int)} (h : Op1 w v os) : Op1 w.drew v os := by
  obtain ⟨A, c, e, hr⟩ := h.ex
  exact ⟨⟨A, c, e, hr.keep (still_below (Below.refl _ _))⟩, h.n⟩
theorem op1_nil (w : World) : Op1 w (.slice none 0 0) [] := ⟨⟨none, 0, rfl, reads_nil _ _⟩, by simp⟩

/-- a packet and a message that may be looked at -/
structure Gd (k : Pk) (m : Ms) : Prop where
  s : Ok k.s
  d : Ok k.d
  t : Ok m.t
  e : Ok m.d
  f : Fine3 m
  fl : 0 ≤ m.flags ∧ m.flags ≤ 255
  kd : 0 ≤ m.kind ∧ m.kind ≤ 255
theorem Gd.ends {k : Pk} {m : Ms} (h : Gd k m) : Hd.Ends k := ⟨h.s.len, h.d.len⟩

/-- nobody's address -/
def nob (xs : List Int) : Bool := decide (xs = kn 0)
/-- there is an option 1 -/
def one (os : List (Int × List Int)) : Bool := os.any (fun o => o.1 == 1)
def hides (k : Pk) (os : List (Int × List Int)) : Bool := !nob k.s || !one os
def asks (k : Pk) (m : Ms) (os : List (Int × List Int)) : Bool := (!mult m.t && (!nob k.s || decide (k.d = sol m.t))) && hides k os
def tells (k : Pk) (m : Ms) : Bool := !mult m.t && !(mult k.d && decide (m.flags / 64 % 2 = 1))
def leads (m : Ms) : Bool := !mult m.d && (ll m.t || decide (m.t = m.d))
theorem one_next {os : List (Int × List Int)} {i : Nat} {o : Int × List Int} (h : os[i]? = some o) : one (os.take (i + 1)) = (one (os.take i) || o.1 == 1) := by
  have : os.take (i + 1) = os.take i ++ [o] := by
    rw [List.take_add_one, h]
    rfl
  unfold one
  rw [this]
  simp
theorem one_hit {os : List (Int × List Int)} {i : Nat} {o : Int × List Int} (h : os[i]? = some o) (hk : o.1 = 1) : one os = true := by
  unfold one
  rw [List.any_eq_true]
  exact ⟨o, List.mem_of_getElem? h, by simp [hk]⟩

theorem isLink_any (x : El) (w : World) : Calls Tryd.prog 57 #[ov x] w fun e w' => e = .returned (.bool (x.k == 1)) ∧ Below w.heap.size w w' := by
  have Y := veil ((Lay.begin w).new (tv x) 46 rfl)
  have c0 := Y.out.look mem0 (o := 0) (v := .int .u8 x.k) rfl
  obtain ⟨k, A, n, c⟩ := x
  simp only at c0
  go_enter Tryd.func57, Tryd.ntmps57
  go_wp2_with fail
  go_ret
  exact ⟨rfl, Y.out.below⟩

abbrev fnv (f : FuncId) : Value := .func (.func f) #[] #[]

set_option maxHeartbeats 2000000 in
theorem index_any (A : Option Addr) (n c : Nat) (os : List (Int × List Int)) (w : World) (hl : os.length = n) (hn : n ≤ 140737488355328) (ha : Reads w A os) :
    Calls Tryd.prog 60 #[.slice A n c, fnv 57] w fun e w' => ∃ r : Int, e = .returned (.int .i64 r) ∧ decide (0 ≤ r) = one os ∧ Below w.heap.size w w' := by
  have HA := veil ha
  have HL := veil hl
  have in1 : (n : Int) ≤ 140737488355328 := by omega
  clear ha hl
  go_enter Tryd.func60, Tryd.ntmps60
  go_wp2_with fail
  go_loopw [8] (fun s8 wr => ∃ i : Nat, i ≤ n ∧ s8 = .int .i64 i ∧ Hid (Below w.heap.size w wr) ∧ Hid (one (os.take i) = false)) (fun s8 _ => n - (intOf s8).toNat)
  case atStart => exact ⟨0, Nat.zero_le _, rfl, veil (Below.refl _ _), veil (by simp [one])⟩
  case round =>
    rename World => wr
    obtain ⟨i, hi, rfl, VB, HN⟩ := hrel
    by_cases hlt : i < n
    · have ij : (i : Int) < (n : Int) := by omega
      obtain ⟨o, ho⟩ : ∃ o, os[i]? = some o := ⟨_, List.getElem?_eq_getElem (by rw [HL.out]; exact hlt)⟩
      obtain ⟨a, x, rfl, X, k1, s1⟩ := HA.out i o ho
      have L0 := veil ((X.keep VB.out).load)
      have K := veil (isLink_any x wr)
      have HOJ := veil ho
      have HK1 := veil k1
      clear X s1 ho k1
      go_wp2_with (refine wpList_load_of rfl (.tmp 14) rfl rfl L0.out ?_)
      refine (K.out).mono ?_
      rintro e w2 ⟨rfl, q⟩
      have VB2 := veil (VB.out.trans (q.mono VB.out.size))
      clear K q L0 VB
      by_cases hk : x.k = 1
      · have dk : (x.k == 1) = true := by simp [hk]
        have H1 := veil (one_hit HOJ.out (HK1.out.symm.trans hk))
        clear hk
        rw [dk]
        go_wp2_with fail
        go_ret
        exact ⟨i, rfl, by rw [H1.out]; simp, VB2.out⟩
      · have dk : (x.k == 1) = false := by simp [hk]
        have H1 : Hid (one (os.take (i + 1)) = false) := veil (by rw [one_next HOJ.out, HN.out, ← HK1.out, dk]; rfl)
        clear hk
        rw [dk]
        go_wp2_with fail
        go_roundw
        case rel => exact ⟨i + 1, by omega, by go_num, VB2, H1⟩
        case measure => simp [intOf]; omega
    · have ij : ¬ (i : Int) < (n : Int) := by omega
      have hfull : os.take i = os := List.take_of_length_le (by rw [HL.out]; omega)
      rw [hfull] at HN
      clear hfull
      go_wp2_with fail
      go_ret
      exact ⟨-1, rfl, by rw [HN.out]; simp, VB.out⟩

theorem contains_any (v : Value) (os : List (Int × List Int)) (w : World) (h : Op1 w v os) :
    Calls Tryd.prog 56 #[v, fnv 57] w fun e w' => e = .returned (.bool (one os)) ∧ Below w.heap.size w w' := by
  obtain ⟨A, c, rfl, hr⟩ := h.ex
  have K := veil (index_any A os.length c os w rfl h.n hr)
  clear h hr
  generalize os.length = n at *
  generalize one os = z at *
  go_enter Tryd.func56, Tryd.ntmps56
  go_wp2_with fail
  refine (K.out).mono ?_
  rintro e w2 ⟨r, rfl, hz, q⟩
  have Q := veil q
  have HZ := veil hz
  clear K q hz
  go_wp2_with fail
  go_ret
  rw [← HZ.out]
  exact ⟨rfl, Q.out⟩

theorem anybody_any (xs : List Int) (w : World) : Calls Tryd.prog 41 #[av xs] w fun e w' => e = .returned (.bool true) ∧ Below w.heap.size w w' := by
  have q := veil (below_new w (.cells (bv xs).toArray 23))
  go_enter Tryd.func41, Tryd.ntmps41
  go_wp2_with fail
  go_ret
  exact ⟨rfl, q.out⟩

set_option linter.unusedSimpArgs false in
theorem isNobody_any (xs : List Int) (w : World) (hk : Knw w) (h : Ok xs) : Calls Tryd.prog 55 #[av xs] w fun e w' => e = .returned (.bool (nob xs)) ∧ Below w.heap.size w w' := by
  have M := veil ((Kw.begin hk).new (bv xs) 23 rfl)
  have hi := sizeAddr h.len
  have E0 : ∀ u, (binOp .eql 23 (av xs) (av (kn 0))).run Tryd.prog u = .ok (.bool (nob xs)) u := fun u => eql_any u h.len (kn_len (by omega)) rfl
  clear hk h
  generalize nob xs = z at *
  generalize hk0 : kn 0 = k0 at *
  have HK0 := veil hk0
  clear hk0
  go_enter Tryd.func55, Tryd.ntmps55
  go_wp2_with fail
  generalize w.alloc (.cells (bv xs).toArray 23) = w1 at *
  have M := veil M.out.drew
  refine wp_region_noPanic ?_
  refine wp_region_held_drew (S := (fun w' => ∀ x ∈ [(w.heap.size, (23, bv xs))], w'.rangeAt x.1 0 x.2.2)) (by kernel_rfl) M.out.rng (fun hHeld => ?_)
  refine wpAnyH_take (i := 0) (v := _) (by rfl) (by kernel_rfl) (by kernel_rfl) (by kernel_rfl) (fun _ _ _ h => h) (yieldsIf_load_mid (by rfl) _ _ (by rfl) _ _ rfl (bv xs) _ (fun _ h => h _ mem0) Tryd.underlying23 rfl hi) hHeld ?_
  try simp only [Act.put, List.setIfInBounds_toArray, List.set_cons_zero, List.set_cons_succ, List.getElem_toArray, List.getElem_cons_zero, List.getElem_cons_succ]
  refine wpAnyH_ready (rs := [1]) (by kernel_rfl) (by simp) ?_
  refine AllReadyH.cons (by rfl) (fun K hK => ?_) AllReadyH.nil
  simp only [List.getElem_toArray, List.getElem_cons_zero, List.getElem_cons_succ]
  go_simp
  refine (unspecified_any _ M.out.knw).mono ?_
  rintro e w2 ⟨rfl, q⟩
  have M := veil (M.out.keep q)
  clear q
  rw [HK0.out]
  (try dsimp only)
  refine hK.out _ _ M.out.rng (fun hHeld => ?_)
  clear hK K
  try simp only [Act.put, List.setIfInBounds_toArray, List.set_cons_zero, List.set_cons_succ, List.getElem_toArray, List.getElem_cons_zero, List.getElem_cons_succ]
  refine wpAnyH_take (i := 2) (v := ?_) (by rfl) (by kernel_rfl) (by kernel_rfl) (by kernel_rfl) (fun _ _ _ h => h) (Or.inl ⟨by rfl, ?_⟩) hHeld ?_
  rotate_left
  · intro w' hSw
    (try dsimp only at hSw)
    simp only [List.getElem_toArray, List.getElem_cons_zero, List.getElem_cons_succ]
    go_simp
    all_goals (try with_reducible rfl)
  try simp only [Act.put, List.setIfInBounds_toArray, List.set_cons_zero, List.set_cons_succ, List.getElem_toArray, List.getElem_cons_zero, List.getElem_cons_succ]
  refine wpAnyH_take (i := 3) (v := ?_) (by rfl) (by kernel_rfl) (by kernel_rfl) (by kernel_rfl) (fun _ _ _ h => h) (Or.inl ⟨by rfl, ?_⟩) hHeld ?_
  rotate_left
  · intro w' hSw
    (try dsimp only at hSw)
    simp only [List.getElem_toArray, List.getElem_cons_zero, List.getElem_cons_succ]
    go_simp
    all_goals (try with_reducible rfl)
  try simp only [Act.put, List.setIfInBounds_toArray, List.set_cons_zero, List.set_cons_succ, List.getElem_toArray, List.getElem_cons_zero, List.getElem_cons_succ]
  refine wpAnyH_done (by kernel_rfl) ?_ _
  refine NoPanic.normal ?_
  clear hHeld
  go_wp2_with fail
  go_ret
  exact ⟨rfl, M.out.below⟩

theorem localOrNobody_any (xs : List Int) (w : World) (hk : Knw w) (h : Ok xs) : Calls Tryd.prog 47 #[av xs] w fun e w' => e = .returned (.bool (ll xs || nob xs)) ∧ Below w.heap.size w w' := by
  have M := veil ((Kw.begin hk).new (bv xs) 23 rfl)
  have HH := veil h
  clear hk h
  go_enter Tryd.func47, Tryd.ntmps47
  go_wp2_with (refine wpList_load_of rfl _ rfl rfl (M.out.lay.load mem0 (part_all _) Tryd.underlying23 rfl (sizeAddr HH.out.len)) ?_)
  generalize w.alloc (.cells (bv xs).toArray 23) = w1 at *
  refine (isLinkLocal_any xs _ HH.out).mono ?_
  rintro e w2 ⟨rfl, q⟩
  have M := veil (M.out.keep q)
  clear q
  cases hl : ll xs with
  | true =>
    have HL := veil hl
    clear hl
    go_wp2_with fail
    go_ret
    exact ⟨by simp [HL.out], M.out.below⟩
  | false =>
    have HL := veil hl
    clear hl
    go_wp2_with (refine wpList_load_of rfl _ rfl rfl (M.out.lay.load mem0 (part_all _) Tryd.underlying23 rfl (sizeAddr HH.out.len)) ?_)
    refine (isNobody_any xs _ M.out.knw HH.out).mono ?_
    rintro e w3 ⟨rfl, q⟩
    have M := veil (M.out.keep q)
    clear q
    go_wp2_with fail
    go_ret
    exact ⟨by simp [HL.out], M.out.below⟩

/-- a packet and a message handed in: their blocks -/
theorem two_new {w : World} (hk : Knw w) (k : Pk) (v : Value) (m : Ms) : Kw w ((w.alloc (.cells (pc k v).toArray 30)).alloc (.cells (mc m).toArray 35)) [(w.heap.size + 1, 35, mc m), (w.heap.size, 30, pc k v)] :=
  ((Kw.begin hk).new (pc k v) 30 rfl).new (mc m) 35 (by simp)

theorem and_sixtyfour {x : Int} (hx : 0 ≤ x ∧ x ≤ 255) : bits .and .u8 x 64 = x / 64 % 2 * 64 :=
  Ad.fin256 (p := fun x => bits .and .u8 x 64 = x / 64 % 2 * 64) (by decide +kernel) hx

section
variable (k : Pk) (v : Value) (m : Ms) (os : List (Int × List Int)) (w : World)

set_option linter.unusedSimpArgs false in
theorem onAlert_any (hk : Knw w) (G : Gd k m) : Calls Tryd.prog 40 #[pv k v, mv m] w fun e w' => e = .returned (.bool (k.alert)) ∧ Below w.heap.size w w' := by
  have M := veil (two_new hk k v m)
  have VG := veil G
  have a1 := (pktAt M.out.lay mem1 VG.out.ends).alert
  clear hk G
  go_enter Tryd.func40, Tryd.ntmps40
  go_wp2_with fail
  go_ret
  exact ⟨rfl, M.out.below⟩

set_option linter.unusedSimpArgs false in
theorem noMore_any (hk : Knw w) (G : Gd k m) : Calls Tryd.prog 43 #[pv k v, mv m] w fun e w' => e = .returned (.bool (true)) ∧ Below w.heap.size w w' := by
  have M := veil (two_new hk k v m)
  have VG := veil G
  clear hk G
  go_enter Tryd.func43, Tryd.ntmps43
  go_wp2_with fail
  go_ret
  exact ⟨rfl, M.out.below⟩

set_option linter.unusedSimpArgs false in
theorem hidesNothing_any (hk : Knw w) (G : Gd k m) (hO : Op1 w m.opts os) : Calls Tryd.prog 42 #[pv k v, mv m] w fun e w' => e = .returned (.bool (hides k os)) ∧ Below w.heap.size w w' := by
  have M := veil (two_new hk k v m)
  have VG := veil G
  have HO := veil (hO.keep M.out.below)
  clear hO
  clear hk G
  go_enter Tryd.func42, Tryd.ntmps42
  go_wp2_with (refine wpList_load_of rfl _ rfl rfl (pktAt M.out.lay mem1 VG.out.ends).src ?_)
  generalize (w.alloc (.cells (pc k v).toArray 30)).alloc (.cells (mc m).toArray 35) = w1 at *
  refine (isNobody_any k.s _ M.out.knw VG.out.s).mono ?_
  rintro e w2 ⟨rfl, q⟩
  have M := veil (M.out.keep q)
  have HO := veil (HO.out.keep q)
  clear q
  cases hb : nob k.s with
  | false =>
    have HB := veil hb
    clear hb
    go_wp2_with fail
    go_ret
    exact ⟨by unfold hides; rw [HB.out]; rfl, M.out.below⟩
  | true =>
    have HB := veil hb
    clear hb
    have c1 := (msgAt M.out.lay mem0 VG.out.f).opts
    go_wp2_with fail
    clear c1
    refine (contains_any m.opts os _ HO.out).mono ?_
    rintro e w3 ⟨rfl, q⟩
    have M := veil (M.out.keep q)
    clear q
    go_wp2_with fail
    go_ret
    exact ⟨by unfold hides; rw [HB.out]; rfl, M.out.below⟩

set_option linter.unusedSimpArgs false in
theorem asksOne_any (hk : Knw w) (G : Gd k m) (hO : Op1 w m.opts os) : Calls Tryd.prog 44 #[pv k v, mv m] w fun e w' => e = .returned (.bool (asks k m os)) ∧ Below w.heap.size w w' := by
  have M := veil (two_new hk k v m)
  have VG := veil G
  have HO := veil (hO.keep M.out.below)
  have hs16 := sizeAddr G.s.len
  have hd16 := sizeAddr G.d.len
  have ht16 := sizeAddr G.t.len
  clear hO
  clear hk G
  go_enter Tryd.func44, Tryd.ntmps44
  go_wp2_with fail
  generalize (w.alloc (.cells (pc k v).toArray 30)).alloc (.cells (mc m).toArray 35) = w1 at *
  have M := veil M.out.drew
  have HO := veil HO.out.drew
  cases hb : nob k.s with
  | false =>
    refine wp_region_noPanic ?_
    refine wp_region_held_drew (S := (fun w' => ∀ x ∈ [(w.heap.size + 1, (35, mc m)), (w.heap.size, (30, pc k v))], w'.rangeAt x.1 0 x.2.2)) (by kernel_rfl) M.out.rng (fun hHeld => ?_)
    refine wpAnyH_take (i := 0) (v := ?_) (by rfl) (by kernel_rfl) (by kernel_rfl) (by kernel_rfl) (fun _ _ _ h => h) (Or.inl ⟨by rfl, ?_⟩) hHeld ?_
    rotate_left
    · intro w' hSw
      (try dsimp only at hSw)
      simp only [List.getElem_toArray, List.getElem_cons_zero, List.getElem_cons_succ]
      go_simp
      all_goals (try with_reducible rfl)
    try simp only [Act.put, List.setIfInBounds_toArray, List.set_cons_zero, List.set_cons_succ, List.getElem_toArray, List.getElem_cons_zero, List.getElem_cons_succ]
    refine wpAnyH_take (i := 1) (v := _) (by rfl) (by kernel_rfl) (by kernel_rfl) (by kernel_rfl) (fun _ _ _ h => h) (yieldsIf_load_mid (by rfl) _ _ (by rfl) _ _ rfl (bv k.s) _ (fun _ h => part_rng (h _ mem1) pc_src) Tryd.underlying23 rfl hs16) hHeld ?_
    try simp only [Act.put, List.setIfInBounds_toArray, List.set_cons_zero, List.set_cons_succ, List.getElem_toArray, List.getElem_cons_zero, List.getElem_cons_succ]
    refine wpAnyH_ready (rs := [2]) (by kernel_rfl) (by simp) ?_
    refine AllReadyH.cons (by rfl) (fun K hK => ?_) AllReadyH.nil
    simp only [List.getElem_toArray, List.getElem_cons_zero, List.getElem_cons_succ]
    go_simp
    refine (isNobody_any k.s _ M.out.knw VG.out.s).mono ?_
    rintro e w2 ⟨rfl, q⟩
    have M := veil (M.out.keep q)
    have HO := veil (HO.out.keep q)
    clear q
    rw [hb]
    (try dsimp only)
    refine hK.out _ _ M.out.rng (fun hHeld => ?_)
    clear hK K
    try simp only [Act.put, List.setIfInBounds_toArray, List.set_cons_zero, List.set_cons_succ, List.getElem_toArray, List.getElem_cons_zero, List.getElem_cons_succ]
    refine wpAnyH_take (i := 3) (v := ?_) (by rfl) (by kernel_rfl) (by kernel_rfl) (by kernel_rfl) (fun _ _ _ h => h) (Or.inl ⟨by rfl, ?_⟩) hHeld ?_
    rotate_left
    · intro w' hSw
      (try dsimp only at hSw)
      simp only [List.getElem_toArray, List.getElem_cons_zero, List.getElem_cons_succ]
      go_simp
      all_goals (try with_reducible rfl)
    try simp only [Act.put, List.setIfInBounds_toArray, List.set_cons_zero, List.set_cons_succ, List.getElem_toArray, List.getElem_cons_zero, List.getElem_cons_succ]
    refine wpAnyH_take (i := 4) (v := ?_) (by rfl) (by kernel_rfl) (by kernel_rfl) (by kernel_rfl) (fun _ _ _ h => h) (Or.inl ⟨by rfl, ?_⟩) hHeld ?_
    rotate_left
    · intro w' hSw
      (try dsimp only at hSw)
      simp only [List.getElem_toArray, List.getElem_cons_zero, List.getElem_cons_succ]
      go_simp
      all_goals (try with_reducible rfl)
    try simp only [Act.put, List.setIfInBounds_toArray, List.set_cons_zero, List.set_cons_succ, List.getElem_toArray, List.getElem_cons_zero, List.getElem_cons_succ]
    refine wpAnyH_take (i := 5) (v := undef) (by rfl) (by kernel_rfl) (by kernel_rfl) (by kernel_rfl) (fun _ _ _ h => h) (Or.inr ⟨by rfl, rfl⟩) hHeld ?_
    try simp only [Act.put, List.setIfInBounds_toArray, List.set_cons_zero, List.set_cons_succ, List.getElem_toArray, List.getElem_cons_zero, List.getElem_cons_succ]
    refine wpAnyH_take (i := 6) (v := undef) (by rfl) (by kernel_rfl) (by kernel_rfl) (by kernel_rfl) (fun _ _ _ h => h) (Or.inr ⟨by rfl, rfl⟩) hHeld ?_
    try simp only [Act.put, List.setIfInBounds_toArray, List.set_cons_zero, List.set_cons_succ, List.getElem_toArray, List.getElem_cons_zero, List.getElem_cons_succ]
    refine wpAnyH_take (i := 7) (v := undef) (by rfl) (by kernel_rfl) (by kernel_rfl) (by kernel_rfl) (fun _ _ _ h => h) (Or.inr ⟨by rfl, rfl⟩) hHeld ?_
    try simp only [Act.put, List.setIfInBounds_toArray, List.set_cons_zero, List.set_cons_succ, List.getElem_toArray, List.getElem_cons_zero, List.getElem_cons_succ]
    refine wpAnyH_take (i := 8) (v := undef) (by rfl) (by kernel_rfl) (by kernel_rfl) (by kernel_rfl) (fun _ _ _ h => h) (Or.inr ⟨by rfl, rfl⟩) hHeld ?_
    try simp only [Act.put, List.setIfInBounds_toArray, List.set_cons_zero, List.set_cons_succ, List.getElem_toArray, List.getElem_cons_zero, List.getElem_cons_succ]
    refine wpAnyH_take (i := 9) (v := undef) (by rfl) (by kernel_rfl) (by kernel_rfl) (by kernel_rfl) (fun _ _ _ h => h) (Or.inr ⟨by rfl, rfl⟩) hHeld ?_
    try simp only [Act.put, List.setIfInBounds_toArray, List.set_cons_zero, List.set_cons_succ, List.getElem_toArray, List.getElem_cons_zero, List.getElem_cons_succ]
    refine wpAnyH_take (i := 10) (v := undef) (by rfl) (by kernel_rfl) (by kernel_rfl) (by kernel_rfl) (fun _ _ _ h => h) (Or.inr ⟨by rfl, rfl⟩) hHeld ?_
    try simp only [Act.put, List.setIfInBounds_toArray, List.set_cons_zero, List.set_cons_succ, List.getElem_toArray, List.getElem_cons_zero, List.getElem_cons_succ]
    refine wpAnyH_take (i := 11) (v := ?_) (by rfl) (by kernel_rfl) (by kernel_rfl) (by kernel_rfl) (fun _ _ _ h => h) (Or.inl ⟨by rfl, ?_⟩) hHeld ?_
    rotate_left
    · intro w' hSw
      (try dsimp only at hSw)
      simp only [List.getElem_toArray, List.getElem_cons_zero, List.getElem_cons_succ]
      go_simp
      all_goals (try with_reducible rfl)
    try simp only [Act.put, List.setIfInBounds_toArray, List.set_cons_zero, List.set_cons_succ, List.getElem_toArray, List.getElem_cons_zero, List.getElem_cons_succ]
    refine wpAnyH_take (i := 12) (v := ?_) (by rfl) (by kernel_rfl) (by kernel_rfl) (by kernel_rfl) (fun _ _ _ h => h) (Or.inl ⟨by rfl, ?_⟩) hHeld ?_
    rotate_left
    · intro w' hSw
      (try dsimp only at hSw)
      simp only [List.getElem_toArray, List.getElem_cons_zero, List.getElem_cons_succ]
      go_simp
      all_goals (try with_reducible rfl)
    try simp only [Act.put, List.setIfInBounds_toArray, List.set_cons_zero, List.set_cons_succ, List.getElem_toArray, List.getElem_cons_zero, List.getElem_cons_succ]
    refine wpAnyH_done (by kernel_rfl) ?_ _
    refine NoPanic.normal ?_
    clear hHeld
    have HB := veil hb
    clear hs16 hd16 ht16 hb
    go_wp2_with (refine wpList_load_of rfl _ rfl rfl (msgAt M.out.lay mem0 VG.out.f).t ?_)
    refine (isMulticast_any m.t _ VG.out.t).mono ?_
    rintro e w4 ⟨rfl, q⟩
    have M := veil (M.out.keep q)
    have HO := veil (HO.out.keep q)
    clear q
    cases hm : mult m.t with
    | true =>
      have HM := veil hm
      clear hm
      go_wp2_with fail
      go_ret
      exact ⟨by unfold asks; rw [HM.out]; rfl, M.out.below⟩
    | false =>
      have HM := veil hm
      clear hm
      go_wp2_with (first
        | (refine wpList_load_of rfl _ rfl rfl (pktAt M.out.lay mem1 VG.out.ends).all ?_)
        | (refine wpList_load_of rfl _ rfl rfl (msgAt M.out.lay mem0 VG.out.f).all ?_))
      refine (hidesNothing_any k v m os _ M.out.knw VG.out HO.out).mono ?_
      rintro e w5 ⟨rfl, q⟩
      have M := veil (M.out.keep q)
      clear q
      go_wp2_with fail
      go_ret
      exact ⟨by unfold asks; rw [HB.out, HM.out]; simp, M.out.below⟩
  | true =>
    have E0 : ∀ u, (binOp .eql 23 (av k.d) (av (sol m.t))).run Tryd.prog u = .ok (.bool (decide (k.d = sol m.t))) u := fun u => eql_any u VG.out.d.len (sol_ok VG.out.t).len rfl
    generalize hsol : sol m.t = st at *
    have HS := veil hsol
    clear hsol
    generalize hz : decide (k.d = st) = z at *
    have HZ := veil hz
    clear hz
    refine wp_region_noPanic ?_
    refine wp_region_held_drew (S := (fun w' => ∀ x ∈ [(w.heap.size + 1, (35, mc m)), (w.heap.size, (30, pc k v))], w'.rangeAt x.1 0 x.2.2)) (by kernel_rfl) M.out.rng (fun hHeld => ?_)
    refine wpAnyH_take (i := 0) (v := ?_) (by rfl) (by kernel_rfl) (by kernel_rfl) (by kernel_rfl) (fun _ _ _ h => h) (Or.inl ⟨by rfl, ?_⟩) hHeld ?_
    rotate_left
    · intro w' hSw
      (try dsimp only at hSw)
      simp only [List.getElem_toArray, List.getElem_cons_zero, List.getElem_cons_succ]
      go_simp
      all_goals (try with_reducible rfl)
    try simp only [Act.put, List.setIfInBounds_toArray, List.set_cons_zero, List.set_cons_succ, List.getElem_toArray, List.getElem_cons_zero, List.getElem_cons_succ]
    refine wpAnyH_take (i := 1) (v := _) (by rfl) (by kernel_rfl) (by kernel_rfl) (by kernel_rfl) (fun _ _ _ h => h) (yieldsIf_load_mid (by rfl) _ _ (by rfl) _ _ rfl (bv k.s) _ (fun _ h => part_rng (h _ mem1) pc_src) Tryd.underlying23 rfl hs16) hHeld ?_
    try simp only [Act.put, List.setIfInBounds_toArray, List.set_cons_zero, List.set_cons_succ, List.getElem_toArray, List.getElem_cons_zero, List.getElem_cons_succ]
    refine wpAnyH_ready (rs := [2]) (by kernel_rfl) (by simp) ?_
    refine AllReadyH.cons (by rfl) (fun K hK => ?_) AllReadyH.nil
    simp only [List.getElem_toArray, List.getElem_cons_zero, List.getElem_cons_succ]
    go_simp
    refine (isNobody_any k.s _ M.out.knw VG.out.s).mono ?_
    rintro e w2 ⟨rfl, q⟩
    have M := veil (M.out.keep q)
    have HO := veil (HO.out.keep q)
    clear q
    rw [hb]
    (try dsimp only)
    refine hK.out _ _ M.out.rng (fun hHeld => ?_)
    clear hK K
    try simp only [Act.put, List.setIfInBounds_toArray, List.set_cons_zero, List.set_cons_succ, List.getElem_toArray, List.getElem_cons_zero, List.getElem_cons_succ]
    refine wpAnyH_take (i := 3) (v := ?_) (by rfl) (by kernel_rfl) (by kernel_rfl) (by kernel_rfl) (fun _ _ _ h => h) (Or.inl ⟨by rfl, ?_⟩) hHeld ?_
    rotate_left
    · intro w' hSw
      (try dsimp only at hSw)
      simp only [List.getElem_toArray, List.getElem_cons_zero, List.getElem_cons_succ]
      go_simp
      all_goals (try with_reducible rfl)
    try simp only [Act.put, List.setIfInBounds_toArray, List.set_cons_zero, List.set_cons_succ, List.getElem_toArray, List.getElem_cons_zero, List.getElem_cons_succ]
    refine wpAnyH_take (i := 4) (v := ?_) (by rfl) (by kernel_rfl) (by kernel_rfl) (by kernel_rfl) (fun _ _ _ h => h) (Or.inl ⟨by rfl, ?_⟩) hHeld ?_
    rotate_left
    · intro w' hSw
      (try dsimp only at hSw)
      simp only [List.getElem_toArray, List.getElem_cons_zero, List.getElem_cons_succ]
      go_simp
      all_goals (try with_reducible rfl)
    try simp only [Act.put, List.setIfInBounds_toArray, List.set_cons_zero, List.set_cons_succ, List.getElem_toArray, List.getElem_cons_zero, List.getElem_cons_succ]
    refine wpAnyH_take (i := 5) (v := ?_) (by rfl) (by kernel_rfl) (by kernel_rfl) (by kernel_rfl) (fun _ _ _ h => h) (Or.inl ⟨by rfl, ?_⟩) hHeld ?_
    rotate_left
    · intro w' hSw
      (try dsimp only at hSw)
      simp only [List.getElem_toArray, List.getElem_cons_zero, List.getElem_cons_succ]
      go_simp
      all_goals (try with_reducible rfl)
    try simp only [Act.put, List.setIfInBounds_toArray, List.set_cons_zero, List.set_cons_succ, List.getElem_toArray, List.getElem_cons_zero, List.getElem_cons_succ]
    refine wpAnyH_take (i := 6) (v := _) (by rfl) (by kernel_rfl) (by kernel_rfl) (by kernel_rfl) (fun _ _ _ h => h) (yieldsIf_load_mid (by rfl) _ _ (by rfl) _ _ rfl (bv k.d) _ (fun _ h => part_rng (h _ mem1) (pc_dst VG.out.ends)) Tryd.underlying23 rfl hd16) hHeld ?_
    try simp only [Act.put, List.setIfInBounds_toArray, List.set_cons_zero, List.set_cons_succ, List.getElem_toArray, List.getElem_cons_zero, List.getElem_cons_succ]
    refine wpAnyH_take (i := 7) (v := ?_) (by rfl) (by kernel_rfl) (by kernel_rfl) (by kernel_rfl) (fun _ _ _ h => h) (Or.inl ⟨by rfl, ?_⟩) hHeld ?_
    rotate_left
    · intro w' hSw
      (try dsimp only at hSw)
      simp only [List.getElem_toArray, List.getElem_cons_zero, List.getElem_cons_succ]
      go_simp
      all_goals (try with_reducible rfl)
    try simp only [Act.put, List.setIfInBounds_toArray, List.set_cons_zero, List.set_cons_succ, List.getElem_toArray, List.getElem_cons_zero, List.getElem_cons_succ]
    refine wpAnyH_take (i := 8) (v := _) (by rfl) (by kernel_rfl) (by kernel_rfl) (by kernel_rfl) (fun _ _ _ h => h) (yieldsIf_load_mid (by rfl) _ _ (by rfl) _ _ rfl (bv m.t) _ (fun _ h => part_rng (h _ mem0) mc_t) Tryd.underlying23 rfl ht16) hHeld ?_
    try simp only [Act.put, List.setIfInBounds_toArray, List.set_cons_zero, List.set_cons_succ, List.getElem_toArray, List.getElem_cons_zero, List.getElem_cons_succ]
    refine wpAnyH_ready (rs := [9]) (by kernel_rfl) (by simp) ?_
    refine AllReadyH.cons (by rfl) (fun K hK => ?_) AllReadyH.nil
    simp only [List.getElem_toArray, List.getElem_cons_zero, List.getElem_cons_succ]
    go_simp
    refine (solicited_any m.t _ VG.out.t).mono ?_
    rintro e w3 ⟨rfl, q⟩
    have M := veil (M.out.keep q)
    have HO := veil (HO.out.keep q)
    clear q
    rw [HS.out]
    (try dsimp only)
    refine hK.out _ _ M.out.rng (fun hHeld => ?_)
    clear hK K
    try simp only [Act.put, List.setIfInBounds_toArray, List.set_cons_zero, List.set_cons_succ, List.getElem_toArray, List.getElem_cons_zero, List.getElem_cons_succ]
    refine wpAnyH_take (i := 10) (v := ?_) (by rfl) (by kernel_rfl) (by kernel_rfl) (by kernel_rfl) (fun _ _ _ h => h) (Or.inl ⟨by rfl, ?_⟩) hHeld ?_
    rotate_left
    · intro w' hSw
      (try dsimp only at hSw)
      simp only [List.getElem_toArray, List.getElem_cons_zero, List.getElem_cons_succ]
      go_simp
      all_goals (try with_reducible rfl)
    try simp only [Act.put, List.setIfInBounds_toArray, List.set_cons_zero, List.set_cons_succ, List.getElem_toArray, List.getElem_cons_zero, List.getElem_cons_succ]
    refine wpAnyH_take (i := 11) (v := ?_) (by rfl) (by kernel_rfl) (by kernel_rfl) (by kernel_rfl) (fun _ _ _ h => h) (Or.inl ⟨by rfl, ?_⟩) hHeld ?_
    rotate_left
    · intro w' hSw
      (try dsimp only at hSw)
      simp only [List.getElem_toArray, List.getElem_cons_zero, List.getElem_cons_succ]
      go_simp
      all_goals (try with_reducible rfl)
    try simp only [Act.put, List.setIfInBounds_toArray, List.set_cons_zero, List.set_cons_succ, List.getElem_toArray, List.getElem_cons_zero, List.getElem_cons_succ]
    refine wpAnyH_take (i := 12) (v := ?_) (by rfl) (by kernel_rfl) (by kernel_rfl) (by kernel_rfl) (fun _ _ _ h => h) (Or.inl ⟨by rfl, ?_⟩) hHeld ?_
    rotate_left
    · intro w' hSw
      (try dsimp only at hSw)
      simp only [List.getElem_toArray, List.getElem_cons_zero, List.getElem_cons_succ]
      go_simp
      all_goals (try with_reducible rfl)
    try simp only [Act.put, List.setIfInBounds_toArray, List.set_cons_zero, List.set_cons_succ, List.getElem_toArray, List.getElem_cons_zero, List.getElem_cons_succ]
    refine wpAnyH_done (by kernel_rfl) ?_ _
    refine NoPanic.normal ?_
    clear hHeld
    have HB := veil hb
    clear hs16 hd16 ht16 hb E0
    go_wp2_with (refine wpList_load_of rfl _ rfl rfl (msgAt M.out.lay mem0 VG.out.f).t ?_)
    refine (isMulticast_any m.t _ VG.out.t).mono ?_
    rintro e w4 ⟨rfl, q⟩
    have M := veil (M.out.keep q)
    have HO := veil (HO.out.keep q)
    clear q
    cases hm : mult m.t with
    | true =>
      have HM := veil hm
      clear hm
      go_wp2_with fail
      go_ret
      exact ⟨by unfold asks; rw [HM.out]; rfl, M.out.below⟩
    | false =>
      have HM := veil hm
      clear hm
      cases z with
      | false =>
        go_wp2_with fail
        go_ret
        exact ⟨by unfold asks; rw [HB.out, HM.out, HS.out, HZ.out]; rfl, M.out.below⟩
      | true =>
        go_wp2_with (first
          | (refine wpList_load_of rfl _ rfl rfl (pktAt M.out.lay mem1 VG.out.ends).all ?_)
          | (refine wpList_load_of rfl _ rfl rfl (msgAt M.out.lay mem0 VG.out.f).all ?_))
        refine (hidesNothing_any k v m os _ M.out.knw VG.out HO.out).mono ?_
        rintro e w5 ⟨rfl, q⟩
        have M := veil (M.out.keep q)
        clear q
        go_wp2_with fail
        go_ret
        exact ⟨by unfold asks; rw [HB.out, HM.out, HS.out, HZ.out]; simp, M.out.below⟩

set_option linter.unusedSimpArgs false in
theorem tellsOne_any (hk : Knw w) (G : Gd k m) : Calls Tryd.prog 45 #[pv k v, mv m] w fun e w' => e = .returned (.bool (tells k m)) ∧ Below w.heap.size w w' := by
  have M := veil (two_new hk k v m)
  have VG := veil G
  clear hk G
  go_enter Tryd.func45, Tryd.ntmps45
  go_wp2_with (refine wpList_load_of rfl _ rfl rfl (pktAt M.out.lay mem1 VG.out.ends).dst ?_)
  generalize (w.alloc (.cells (pc k v).toArray 30)).alloc (.cells (mc m).toArray 35) = w1 at *
  refine (isMulticast_any k.d _ VG.out.d).mono ?_
  rintro e w2 ⟨rfl, q⟩
  have M := veil (M.out.keep q)
  clear q
  have c5 := (msgAt M.out.lay mem0 VG.out.f).flags
  have e := and_sixtyfour VG.out.fl
  have HE : Hid (decide (m.flags / 64 % 2 = 1) = (bits .and .u8 m.flags 64 != 0)) := veil (by rw [e]; rcases (by omega : m.flags / 64 % 2 = 0 ∨ m.flags / 64 % 2 = 1) with h | h <;> simp [h])
  clear e
  cases hd : mult k.d with
  | false =>
    have HD := veil hd
    clear hd
    go_wp2_with (refine wpList_load_of rfl _ rfl rfl (msgAt M.out.lay mem0 VG.out.f).t ?_)
    refine (isMulticast_any m.t _ VG.out.t).mono ?_
    rintro e w3 ⟨rfl, q⟩
    have M := veil (M.out.keep q)
    clear q
    cases hm : mult m.t with
    | false =>
      have HM := veil hm
      clear hm
      go_wp2_with fail
      go_ret
      exact ⟨by unfold tells; rw [HM.out, HD.out, HE.out]; rfl, M.out.below⟩
    | true =>
      have HM := veil hm
      clear hm
      go_wp2_with fail
      go_ret
      exact ⟨by unfold tells; rw [HM.out, HD.out, HE.out]; rfl, M.out.below⟩
  | true =>
    have HD := veil hd
    clear hd
    go_wp2_with (refine wpList_load_of rfl _ rfl rfl (msgAt M.out.lay mem0 VG.out.f).t ?_)
    refine (isMulticast_any m.t _ VG.out.t).mono ?_
    rintro e w3 ⟨rfl, q⟩
    have M := veil (M.out.keep q)
    clear q
    cases hm : mult m.t with
    | false =>
      have HM := veil hm
      clear hm
      go_wp2_with fail
      go_ret
      exact ⟨by unfold tells; rw [HM.out, HD.out, HE.out]; rfl, M.out.below⟩
    | true =>
      have HM := veil hm
      clear hm
      go_wp2_with fail
      go_ret
      exact ⟨by unfold tells; rw [HM.out, HD.out, HE.out]; rfl, M.out.below⟩

set_option linter.unusedSimpArgs false in
theorem leadsOn_any (hk : Knw w) (G : Gd k m) : Calls Tryd.prog 46 #[pv k v, mv m] w fun e w' => e = .returned (.bool (leads m)) ∧ Below w.heap.size w w' := by
  have M := veil (two_new hk k v m)
  have VG := veil G
  clear hk G
  go_enter Tryd.func46, Tryd.ntmps46
  go_wp2_with (refine wpList_load_of rfl _ rfl rfl (msgAt M.out.lay mem0 VG.out.f).d ?_)
  generalize (w.alloc (.cells (pc k v).toArray 30)).alloc (.cells (mc m).toArray 35) = w1 at *
  refine (isMulticast_any m.d _ VG.out.e).mono ?_
  rintro e w2 ⟨rfl, q⟩
  have M := veil (M.out.keep q)
  clear q
  cases hd : mult m.d with
  | true =>
    have HD := veil hd
    clear hd
    go_wp2_with fail
    go_ret
    exact ⟨by unfold leads; rw [HD.out]; rfl, M.out.below⟩
  | false =>
    have HD := veil hd
    clear hd
    go_wp2_with (refine wpList_load_of rfl _ rfl rfl (msgAt M.out.lay mem0 VG.out.f).t ?_)
    refine (isLinkLocal_any m.t _ VG.out.t).mono ?_
    rintro e w3 ⟨rfl, q⟩
    have M := veil (M.out.keep q)
    clear q
    cases hl : ll m.t with
    | true =>
      have HL := veil hl
      clear hl
      go_wp2_with fail
      go_ret
      exact ⟨by unfold leads; rw [HD.out, HL.out]; rfl, M.out.below⟩
    | false =>
      have HL := veil hl
      clear hl
      have E0 : ∀ u, (binOp .eql 23 (av m.t) (av m.d)).run Tryd.prog u = .ok (.bool (decide (m.t = m.d))) u := fun u => eql_any u VG.out.t.len VG.out.e.len rfl
      generalize hz : decide (m.t = m.d) = z at *
      have HZ := veil hz
      clear hz
      go_wp2_with (first
        | (refine wpList_load_of rfl (.tmp 14) rfl rfl (msgAt M.out.lay mem0 VG.out.f).t ?_)
        | (refine wpList_load_of rfl (.tmp 16) rfl rfl (msgAt M.out.lay mem0 VG.out.f).d ?_))
      go_ret
      exact ⟨by unfold leads; rw [HD.out, HL.out, HZ.out]; rfl, M.out.below⟩
end

end Go.Proofs.YthkiamkhignchaaDoor.Ck
