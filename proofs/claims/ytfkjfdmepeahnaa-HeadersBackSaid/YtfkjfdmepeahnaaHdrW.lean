/-
  A chain, by the document's answer: what is said of it, and the ways that go through no header.
  Conditions: at most 16000000 bytes.
-/
import Derived.Test.YtfkjfdmepeahnaaHdrQ
import Derived.Test.YtfkjfdmepeahnaaLayH
namespace Go.Proofs.Ytfkjfdmepeahnaa.Hd
set_option maxRecDepth 100000
open Go.RowKit

/-- a call tells this -/
def Tells (w : World) (t : Tl) (e : Ending) (w' : World) : Prop := ∃ A n c, e = .returned (tv t (.slice A n c)) ∧ Slc w' (.slice A n c) t.rest ∧ (∀ b, A = some b → w.heap.size ≤ b.block) ∧ Below w.heap.size w w'
theorem slc_nil (w : World) : Slc w nilV [] := .inl ⟨rfl, rfl⟩
theorem opts_rest (h : List Int) (p : Int) (hop mc : Bool) (i : Nat) (al : Bool) : (opts h p hop mc i al).rest = [] := by
  fun_induction opts h p hop mc i al <;> simp_all [errT, faulT]
/-- what a chain of fewer than k bytes tells is told -/
def WalkOk (k : Nat) : Prop := ∀ (next : Int) (zs : List Int) (A : Option Addr) (n c : Nat) (p told : Int) (first mc al : Bool) (w : World), zs.length < k → 0 ≤ next ∧ next ≤ 255 → Slc w (.slice A n c) zs → Byt zs → n ≤ 16000000 → 0 ≤ p ∧ p + n < 18446744073709551616 → 0 ≤ told ∧ told < 18446744073709551616 →
  Calls Try.prog 39 #[.int .u8 next, .slice A n c, .int .u64 p, .int .u64 told, .bool first, .bool mc, .bool al] w (Tells w (walk next zs p told first mc al))

theorem made_last (n : Int) (A : Option Addr) (k c : Nat) (al : Bool) (w : World) : (Instr.build 54 #[(0, .int .u8 n), (1, .slice A k c), (2, .bool al)]).run Try.prog w = .ok (tv { last := n, alert := al } (.slice A k c)) w := by
  show (Instr.build 54 #[(0, .int .u8 n), (1, .slice A k c), (2, .bool al)]).run Try.prog w = .ok (.agg #[.int .u8 n, .slice A k c, .bool al, .bool false, .int .u32 0, .int .u16 0, .bool false, .int .u8 0, .int .u32 0, .int .i64 0]) w
  kernel_rfl
theorem made_59 (n : Int) (al : Bool) (w : World) : (Instr.build 54 #[(0, .int .u8 n), (2, .bool al)]).run Try.prog w = .ok (tv { last := n, alert := al } nilV) w := by
  show (Instr.build 54 #[(0, .int .u8 n), (2, .bool al)]).run Try.prog w = .ok (.agg #[.int .u8 n, .slice none 0 0, .bool al, .bool false, .int .u32 0, .int .u16 0, .bool false, .int .u8 0, .int .u32 0, .int .i64 0]) w
  kernel_rfl

set_option maxRecDepth 100000 in
set_option maxHeartbeats 2000000 in
theorem walk_first (zs : List Int) (A : Option Addr) (n c : Nat) (p told : Int) (mc al : Bool) (w : World) (ht : 0 ≤ told ∧ told < 18446744073709551616) :
    Calls Try.prog 39 #[.int .u8 0, .slice A n c, .int .u64 p, .int .u64 told, .bool false, .bool mc, .bool al] w (Tells w (walk 0 zs p told false mc al)) := by
  rw [walk, if_pos (Or.inl rfl), if_pos ⟨rfl, rfl⟩]
  obtain ⟨Z, hZ⟩ : ∃ Z, Z = zt := ⟨_, rfl⟩
  have hz : Hid (Z.toList.length = 10) := by rw [hZ]; exact rfl
  have Y := veil ((Lay.begin w).newA Z 54 (g := w.heap.size) rfl)
  have K := veil (fun u => faulty_any 1 told al u ht)
  generalize Z.toList = ZL at *
  unfold zt at hZ
  subst hZ
  go_enter Try.func39, Try.ntmps39
  go_wp2_with fail
  refine (K.out _).mono ?_
  rintro e w2 ⟨rfl, q⟩
  have Y1 := Y.out.keep q
  have T := veil (told_store (t := faulT 1 told al) (v := nilV) Y1 mem0 hz.out rfl)
  have Y2 := veil (Y1.put 0 rfl (tc (faulT 1 told al) nilV))
  simp only [List.set_cons_zero] at Y2
  have hr : Hid ((faulT 1 told al).rest = []) := rfl
  clear q Y1 K Y
  generalize faulT 1 told al = te at *
  go_wp2_with (refine wpList_store_of rfl _ _ rfl rfl rfl T.out ?_)
  refine bodyPost_ret (told_ret Y2.out mem0 rfl rfl) rfl ?_
  exact ⟨none, 0, 0, rfl, by rw [hr.out]; exact slc_nil _, (fun _ h => by cases h), Y2.out.below⟩

set_option maxRecDepth 100000 in
set_option maxHeartbeats 2000000 in
theorem walk_59 (zs : List Int) (A : Option Addr) (n c : Nat) (p told : Int) (first mc al : Bool) (w : World) :
    Calls Try.prog 39 #[.int .u8 59, .slice A n c, .int .u64 p, .int .u64 told, .bool first, .bool mc, .bool al] w (Tells w (walk 59 zs p told first mc al)) := by
  rw [walk, if_neg (by omega), if_neg (by omega), if_neg (by omega), if_pos rfl]
  obtain ⟨Z, hZ⟩ : ∃ Z, Z = zt := ⟨_, rfl⟩
  have hz : Hid (Z.toList.length = 10) := by rw [hZ]; exact rfl
  have Y := (Lay.begin w).newA Z 54 (g := w.heap.size) rfl
  have T := veil (told_store (t := { last := 59, alert := al }) (v := nilV) Y mem0 hz.out rfl)
  have Y2 := veil (Y.put 0 rfl (tc { last := 59, alert := al } nilV))
  simp only [List.set_cons_zero] at Y2
  have B := veil (fun u => made_59 59 al u)
  have hr : Hid (({ last := 59, alert := al } : Tl).rest = []) := rfl
  clear Y
  generalize ({ last := 59, alert := al } : Tl) = te at *
  generalize Z.toList = ZL at *
  unfold zt at hZ
  subst hZ
  go_enter Try.func39, Try.ntmps39
  go_wp2_with (first
    | (refine wpList_build_of rfl _ _ rfl _ (by simp [Act.eval]) (B.out _) ?_)
    | (refine wpList_store_of rfl _ _ rfl rfl rfl T.out ?_))
  refine bodyPost_ret (told_ret Y2.out mem0 rfl rfl) rfl ?_
  exact ⟨none, 0, 0, rfl, by rw [hr.out]; exact slc_nil _, (fun _ h => by cases h), Y2.out.below⟩

set_option maxRecDepth 100000 in
set_option maxHeartbeats 2000000 in
theorem walk_other (next : Int) (zs : List Int) (A : Option Addr) (n c : Nat) (p told : Int) (first mc al : Bool) (w : World) (h0 : ¬ next = 0) (h60 : ¬ next = 60) (h43 : ¬ next = 43) (h44 : ¬ next = 44) (h59 : ¬ next = 59) (hs : Slc w (.slice A n c) zs) (hn : n ≤ 16000000) :
    Calls Try.prog 39 #[.int .u8 next, .slice A n c, .int .u64 p, .int .u64 told, .bool first, .bool mc, .bool al] w (Tells w (walk next zs p told first mc al)) := by
  rw [walk, if_neg (by omega), if_neg h43, if_neg h44, if_neg h59]
  obtain ⟨Z, hZ⟩ : ∃ Z, Z = zt := ⟨_, rfl⟩
  have hz : Hid (Z.toList.length = 10) := by rw [hZ]; exact rfl
  have Y := (Lay.begin w).newA Z 54 (g := w.heap.size) rfl
  obtain ⟨v5, w5, h5, G5⟩ := (Grow.begin Y).append (hs.keep Y.below) (by simp [(slc_of hs).1]; omega) 28
  obtain ⟨A5, c5, e5, r5, k5⟩ := G5.own.slc.slice
  subst e5
  have hsl := G5.own.slc
  generalize ([] ++ zs).length = n5 at *
  rw [List.nil_append] at hsl
  have T := veil (told_store (t := { last := next, rest := zs, alert := al }) (v := .slice A5 n5 c5) G5.lay mem0 hz.out rfl)
  have Y2 := veil (G5.lay.put 0 rfl (tc { last := next, rest := zs, alert := al } (.slice A5 n5 c5)))
  simp only [List.set_cons_zero] at Y2
  have hoff : Off A5 w.heap.size := fun b hb e => by
    subst hb
    have := (World.ownsRow.lt G5.own b.block rfl).1
    have := Y.lt mem0
    omega
  have hfr : Hid (∀ b, A5 = some b → w.heap.size ≤ b.block) := fun b hb => by
    subst hb
    have := (World.ownsRow.lt G5.own b.block rfl).1
    have := Y.lt mem0
    omega
  have S2 : Hid (Slc (w5.setRow w.heap.size (tc { last := next, rest := zs, alert := al } (.slice A5 n5 c5)).toArray) (.slice A5 n5 c5) zs) := by
    obtain ⟨hl, hr, hc⟩ := slc_of hsl
    rcases hsl with ⟨e1, e2⟩ | ⟨b, c', e1, _, e3⟩
    · exact .inl ⟨e1, e2⟩
    · injection e1 with e4 e5 e6
      subst e4 e6
      exact .inr ⟨b, c5, by rw [hl], hr.setRow hoff _, e3⟩
  have H5 := veil h5
  have B := veil (fun u => made_last next A5 n5 c5 al u)
  have ht : tv { last := next, alert := al } (.slice A5 n5 c5) = tv { last := next, rest := zs, alert := al } (.slice A5 n5 c5) := rfl
  rw [ht] at B
  have f0 : (next == 0) = false := by simpa using h0
  have f1 : (next == 60) = false := by simpa using h60
  have f2 : (next == 43) = false := by simpa using h43
  have f3 : (next == 44) = false := by simpa using h44
  have f4 : (next == 59) = false := by simpa using h59
  have hrr : Hid (({ last := next, rest := zs, alert := al } : Tl).rest = zs) := rfl
  clear Y hs G5 hsl hoff h5 r5 k5 ht
  generalize ({ last := next, rest := zs, alert := al } : Tl) = te at *
  generalize Z.toList = ZL at *
  unfold zt at hZ
  subst hZ
  go_enter Try.func39, Try.ntmps39
  go_wp2_with (first
    | (at_builtin; refine wpList_append_run rfl (.const (.slice none 0 0)) (.tmp 190) rfl rfl rfl H5.out ?_)
    | (refine wpList_build_of rfl 54 #[(0, .tmp 189), (1, .tmp 191), (2, .tmp 192)] rfl _ (by simp [Act.eval, Act.put]) (B.out _) ?_)
    | (refine wpList_store_of rfl _ _ rfl rfl rfl T.out ?_))
  refine bodyPost_ret (told_ret Y2.out mem0 rfl rfl) rfl ?_
  exact ⟨A5, n5, c5, rfl, by rw [hrr.out]; exact S2.out, hfr.out, Y2.out.below⟩

end Go.Proofs.Ytfkjfdmepeahnaa.Hd
