/-
  Of another kind nothing is read from an option, but that six bytes may be an address of the link, or the greatest packet; with a byte more, or fewer, nothing is: the law returns true for every input, and its arguments read as before; the tables that the row lists are tied to the program's text.
  Conditions: none.
-/
import Derived.Test.YtdebifkefpclaaaDoorOpoW
import Derived.Test.YtdebifkefpclaaaDoorOpoPt
import Derived.Test.YtdebifkefpclaaaDoorOpoRd
import Derived.Test.YtdebifkefpclaaaDoorOpoMi
import Derived.Test.YtdebifkefpclaaaDoorOpoB
import Derived.Deep.CutRange
namespace Go.Proofs.YtdebifkefpclaaaDoor.optionsKinds
set_option maxRecDepth 100000
open Go.ChangeShapes Go.WideShapes Go.ChangeAt Go.RowKit Go.Proofs.YtdebifkefpclaaaDoor.Oz Ops

theorem sizePT : (Tryd.prog.info? 58).map (·.size) = some 38 := by kernel_rfl
theorem ptc_len {p : Pt} (hm : p.mac.length = 6) (hi : Fit p.info) (hn : p.non.length = 6) : (ptc p).length = 38 := by
  have := pic_len hi
  simp only [ptc, List.length_append, List.length_cons, List.length_nil, bv_length, hm, hn, this]

/-- of which lengths options of these kinds are -/
def KP (k : Int) (n : Nat) : Prop := (k = 1 ∧ n = 6) ∨ (k = 3 ∧ n = 30) ∨ (k = 5 ∧ n = 6) ∨ (k = 25 ∧ ∃ m, 1 ≤ m ∧ m ≤ 250 ∧ n = 6 + 16 * m)
theorem rd_no {k : Int} {n : Nat} (h : KP k n) (zs : List Int) (hl : zs.length = n + 1 ∨ zs.length + 1 = n) : rdN k zs = 0 := by
  rcases h with ⟨rfl, h⟩ | ⟨rfl, h⟩ | ⟨rfl, h⟩ | ⟨rfl, m, h1, h2, h⟩
  · have e : ¬ zs.length = 6 := by omega
    simp [rdN, macB, preB, mtuB, serOk, e, b2i]
  · have e : ¬ zs.length = 30 := by omega
    simp [rdN, macB, preB, mtuB, serOk, e, b2i]
  · have e : ¬ zs.length = 6 := by omega
    simp [rdN, macB, preB, mtuB, serOk, e, b2i]
  · have e : (decide (22 ≤ zs.length) && decide ((zs.length - 6) % 16 = 0)) = false := by
      rw [← Bool.decide_and]
      exact decide_eq_false (by omega)
    simp [rdN, macB, preB, mtuB, serOk, e, b2i]
/-- what another kind reads -/
theorem rd_other {k q : Int} {n : Nat} (h : KP k n) (zs : List Int) (hl : zs.length = n) : rdN q zs ≤ 1 ∧ 0 ≤ rdN q zs ∧ (¬ q = k → (rdN q zs = 1 ↔ (n = 6 ∧ (q = 1 ∨ q = 2 ∨ q = 5)))) := by
  have hq : q = 1 ∨ q = 2 ∨ q = 3 ∨ q = 5 ∨ q = 25 ∨ (¬ q = 1 ∧ ¬ q = 2 ∧ ¬ q = 3 ∧ ¬ q = 5 ∧ ¬ q = 25) := by omega
  have b : ∀ z : Bool, b2i z = 0 ∨ b2i z = 1 := fun z => by cases z <;> simp [b2i]
  rcases hq with rfl | rfl | rfl | rfl | rfl | ⟨h1, h2, h3, h5, h25⟩
  · have e : rdN 1 zs = b2i (decide (zs.length = 6)) := by simp [rdN, macB, preB, mtuB, serOk, b2i]
    rw [e, hl]
    refine ⟨by have := b (decide (n = 6)); omega, by have := b (decide (n = 6)); omega, fun _ => ?_⟩
    by_cases h6 : n = 6 <;> simp [h6, b2i]
  · have e : rdN 2 zs = b2i (decide (zs.length = 6)) := by simp [rdN, macB, preB, mtuB, serOk, b2i]
    rw [e, hl]
    refine ⟨by have := b (decide (n = 6)); omega, by have := b (decide (n = 6)); omega, fun _ => ?_⟩
    by_cases h6 : n = 6 <;> simp [h6, b2i]
  · have e : rdN 3 zs = b2i (preB 3 zs) := by simp [rdN, macB, mtuB, serOk, b2i]
    rw [e]
    refine ⟨by have := b (preB 3 zs); omega, by have := b (preB 3 zs); omega, fun hne => ?_⟩
    have h30 : ¬ zs.length = 30 := by
      rcases h with ⟨rfl, h⟩ | ⟨rfl, h⟩ | ⟨rfl, h⟩ | ⟨rfl, m, _, _, h⟩
      · omega
      · exact absurd rfl hne
      · omega
      · omega
    simp [preB, h30, b2i]
  · have e : rdN 5 zs = b2i (decide (zs.length = 6)) := by simp [rdN, macB, preB, mtuB, serOk, b2i]
    rw [e, hl]
    refine ⟨by have := b (decide (n = 6)); omega, by have := b (decide (n = 6)); omega, fun _ => ?_⟩
    by_cases h6 : n = 6 <;> simp [h6, b2i]
  · have e : rdN 25 zs = b2i (serOk 25 zs.length) := by simp [rdN, macB, preB, mtuB, b2i]
    rw [e]
    refine ⟨by have := b (serOk 25 zs.length); omega, by have := b (serOk 25 zs.length); omega, fun hne => ?_⟩
    have h22 : serOk 25 zs.length = false := by
      have hh : (decide (22 ≤ zs.length) && decide ((zs.length - 6) % 16 = 0)) = false := by
        rw [← Bool.decide_and]
        refine decide_eq_false ?_
        rcases h with ⟨rfl, h⟩ | ⟨rfl, h⟩ | ⟨rfl, h⟩ | ⟨rfl, m, _, _, h⟩
        · omega
        · omega
        · omega
        · exact absurd rfl hne
      unfold serOk
      rw [hh, Bool.and_false]
    rw [h22]
    simp [b2i]
  · have e : rdN q zs = 0 := by simp [rdN, macB, preB, mtuB, serOk, h1, h2, h3, h5, h25, b2i]
    rw [e]
    exact ⟨by omega, by omega, fun _ => by simp [h1, h2, h5]⟩

theorem byt_app {a b : List Int} (h : Byt a) (k : Byt b) : Byt (a ++ b) := fun z hz => (List.mem_append.1 hz).elim (h z) (k z)
theorem infoB_byt {p : PI} (h : Fit p) : Byt (infoB p) := by
  refine byt_app (byt_app (byt_app (byt_app ?_ (be_byt _ _)) (be_byt _ _)) (fun z hz => by simp at hz; omega)) h.byt
  intro z hz
  have := h.bits
  simp at hz
  rcases hz with rfl | rfl
  · omega
  · unfold flagB
    cases p.on <;> cases p.auto <;> simp
theorem lifeB_byt (n : Int) : Byt (lifeB n) := byt_app (fun z hz => by simp at hz; omega) (be_byt _ _)
theorem serB_byt {n : Int} {az : List (List Int)} (h : ∀ a ∈ az, Byt a) : Byt (serB n az) := byt_app (lifeB_byt n) (fun z hz => by
  obtain ⟨a, ha, hz⟩ := List.mem_flatten.1 hz
  exact h a ha z hz)
/-- an option among those that were made -/
def EachO (XS : List El) (LR : List Blk) : Prop := ∀ i, i < 4 → ∃ (x : El) (zs : List Int) (g : Nat), XS[i]? = some x ∧ ([1, 3, 5, 25] : List Int)[i]? = some x.k ∧ x.A = some ⟨g, 0, none⟩ ∧ (g, 5, bv zs) ∈ LR ∧ x.n = zs.length ∧ x.c = zs.length ∧ Byt zs ∧ KP x.k zs.length

/-- nothing is asked -/
theorem walk_none (p : Pt) (bs0 : List Int) (az : List (List Int)) (ss : List Str) (q : Int) (w : World) (H : Oz.Has w p bs0 az ss) (hm : Mx w) (h : 4000 < lenP p ss ∨ p.sn = 0) :
    Calls Tryd.prog 8 #[.agg (ptc p).toArray, .int .u8 q] w fun e w' => e = .returned (.bool true) ∧ Below w.heap.size w w' := by
  have Y0 := (Lay.begin w).new (ptc p) 58 (g := w.heap.size) rfl
  have L1 := veil (Y0.load (P := Tryd.prog) (ty := 58) (vs := ptc p) mem0 (part_all _) Tryd.underlying58 rfl (by rw [ptc_len H.mac H.info H.non]; exact sizePT))
  have K := veil (long_any p bs0 az ss w _ H Y0.below)
  have VY := veil Y0
  have HM := veil hm
  have h36 := H.at.2.2.2.2.2.2.1
  have HH := veil h
  clear Y0 hm h H
  generalize ptc p = C at *
  generalize hw1 : w.alloc (.cells C.toArray 58) = w1 at *
  obtain ⟨g0, hg0⟩ : ∃ g, w.heap.size = g := ⟨_, rfl⟩
  rw [hg0] at VY L1
  go_enter Tryd.func8, Tryd.ntmps8
  go_wp2_with (refine wpList_load_of rfl (.tmp 2) rfl rfl L1.out ?_)
  clear hw1
  refine (K.out).mono ?_
  rintro e w2 ⟨rfl, q2⟩
  have Y2 := VY.out.keep q2
  have c36 := Y2.look mem0 h36
  have KV := veil (lives_true w2 (HM.out.keep Y2.below))
  have VQ := veil (show Below w.heap.size w w2 from Y2.below)
  have hcase : decide (4000 < lenP p ss) = true ∨ (decide (4000 < lenP p ss) = false ∧ p.sn = 0) := by
    by_cases h4 : 4000 < lenP p ss
    · exact .inl (decide_eq_true h4)
    · exact .inr ⟨decide_eq_false h4, by have := HH.out; omega⟩
  clear K VY Y2 q2 h36 hg0 L1
  rcases hcase with h1 | ⟨h1, h2⟩
  · go_wp2_with fail
    refine (KV.out).mono ?_
    rintro e w3 ⟨rfl, q3⟩
    clear KV
    go_wp2_with fail
    go_ret
    exact ⟨rfl, VQ.out.trans (q3.mono VQ.out.size)⟩
  · go_wp2_with fail
    refine (KV.out).mono ?_
    rintro e w3 ⟨rfl, q3⟩
    clear KV
    go_wp2_with fail
    go_ret
    exact ⟨rfl, VQ.out.trans (q3.mono VQ.out.size)⟩

end Go.Proofs.YtdebifkefpclaaaDoor.optionsKinds
