/-
  Chains of headers, in plain words: what a chain tells, header by header; the options of a header.
  Conditions: none.
-/
import Derived.Test.YthkiamkhignchaaDoorNum
namespace Go.Proofs.YthkiamkhignchaaDoor.Hd

/-- a part -/
structure Fg where
  is : Bool := false
  id : Int := 0
  off : Int := 0
  more : Bool := false
/-- what a chain tells -/
structure Tl where
  last : Int := 0
  rest : List Int := []
  alert : Bool := false
  frag : Fg := {}
  code : Int := 0
  place : Int := 0
  e : Int := 0

/-- an error alone -/
def errT (e : Int) : Tl := { e := e }
/-- a fault -/
def faulT (code place : Int) (al : Bool) : Tl := { alert := al, code := code, place := if 4294967295 < place then 4294967295 else place, e := 7 }

/-- the options of a header, from place i on -/
def opts (h : List Int) (p : Int) (hop mc : Bool) (i : Nat) (al : Bool) : Tl :=
  if h.length ≤ i then { alert := al }
  else if h.getD i 0 = 0 then opts h p hop mc (i + 1) al
  else if h.length ≤ i + 1 then errT 4
  else if h.length < i + 2 + (h.getD (i + 1) 0).toNat then errT 4
  else if h.getD i 0 = 1 then opts h p hop mc (i + 2 + (h.getD (i + 1) 0).toNat) al
  else if hop = true ∧ h.getD i 0 = 5 ∧ h.getD (i + 1) 0 = 2 then opts h p hop mc (i + 2 + (h.getD (i + 1) 0).toNat) true
  else if h.getD i 0 < 64 then opts h p hop mc (i + 2 + (h.getD (i + 1) 0).toNat) al
  else if h.getD i 0 < 128 then errT 8
  else if 192 ≤ h.getD i 0 ∧ mc = true then errT 8
  else faulT 2 (p + i) al
termination_by h.length - i

/-- how many bytes a header has; 0: it is not there -/
def hdr (zs : List Int) (least : Nat) : Nat := if zs.length < least ∨ zs.length < 2 ∨ zs.length < 8 * ((zs.getD 1 0).toNat + 1) then 0 else 8 * ((zs.getD 1 0).toNat + 1)
theorem hdr_le (zs : List Int) (least : Nat) : hdr zs least ≤ zs.length := by unfold hdr; split <;> omega
theorem hdr_eight {zs : List Int} {least : Nat} (h : hdr zs least ≠ 0) : 8 ≤ hdr zs least := by
  revert h
  unfold hdr
  split <;> omega

/-- a part's header -/
def fragOf (zs : List Int) : Fg := { is := true, id := num ((zs.drop 4).take 4), off := num ((zs.drop 2).take 2) / 8, more := decide (num ((zs.drop 2).take 2) % 2 = 1) }

/-- a chain, from a header on -/
def walk (next : Int) (zs : List Int) (p told : Int) (first mc al : Bool) : Tl :=
  if next = 0 ∨ next = 60 then
    if next = 0 ∧ first = false then faulT 1 told al
    else if _ : hdr zs 2 = 0 then errT 5
    else
      let o := opts (zs.take (hdr zs 2)) p (decide (next = 0)) mc 2 false
      if o.e ≠ 0 then { o with alert := decide (o.e = 7) && (al || o.alert) }
      else walk (zs.getD 0 0) (zs.drop (hdr zs 2)) (p + hdr zs 2) p false mc (al || o.alert)
  else if next = 43 then
    if _ : hdr zs 4 = 0 then errT 5
    else if zs.getD 3 0 ≠ 0 then faulT 0 (p + 3) al
    else walk (zs.getD 0 0) (zs.drop (hdr zs 4)) (p + hdr zs 4) p false mc al
  else if next = 44 then
    if zs.length < 8 then errT 5
    else if (fragOf zs).off = 0 ∧ (fragOf zs).more = false then walk (zs.getD 0 0) (zs.drop 8) (p + 8) p false mc al
    else { last := zs.getD 0 0, rest := zs.drop 8, alert := al, frag := fragOf zs }
  else if next = 59 then { last := 59, alert := al }
  else { last := next, rest := zs, alert := al }
termination_by zs.length
decreasing_by
  · have h1 := hdr_le zs 2; have h2 := hdr_eight ‹¬ hdr zs 2 = 0›; simp; omega
  · have h1 := hdr_le zs 4; have h2 := hdr_eight ‹¬ hdr zs 4 = 0›; simp; omega
  · simp; omega

/-- who told the first header -/
def teller (p : Int) : Int := if p = 40 then 6 else if 8 ≤ p then p - 8 else 0
def chain (next : Int) (zs : List Int) (p : Int) (mc : Bool) : Tl := walk next zs p (teller p) (decide (p = 40)) mc false

end Go.Proofs.YthkiamkhignchaaDoor.Hd
