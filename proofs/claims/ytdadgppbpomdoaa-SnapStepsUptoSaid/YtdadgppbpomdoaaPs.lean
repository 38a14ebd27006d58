/- AN OPERATION OF snap, STEP BY STEP: Step as one contract. -/
import Derived.Test.YtdadgppbpomdoaaPp
import Derived.Test.YtdadgppbpomdoaaPj
namespace Go.Proofs.Ytdadgppbpomdoaa
open Go Go.RowKit

/-- an operation under way: what it is; its phase (0: ahead of a load, 1: ahead of its swap, 2: ended); what it has loaded; its answer -/
structure OpQ where
  k : Int
  r : Int
  v : Int
  t : Int
  ph : Nat
  saw : Int
  c : Nat
  la : List Int
  lw : List Int
  cl : Bool
  xs : List Int
/-- an operation that is right, on n registers -/
def OkQ (n : Nat) (o : OpQ) : Prop :=
  (o.k = 1 ∧ (∃ i : Nat, o.r = (i : Int) ∧ i < n) ∧ U32 o.v ∧ o.t = 0 ∧ U64 o.saw ∧ o.cl = false) ∨ (o.k = 2 ∧ (∃ i : Nat, o.r = (i : Int) ∧ i < n) ∧ o.v = 0 ∧ o.t = 0 ∧ o.ph ≠ 1 ∧ o.cl = false) ∨ (o.k = 3 ∧ o.r = 0 ∧ o.v = 0 ∧ 1 ≤ o.t ∧ o.t ≤ 1024 ∧ (o.c : Int) ≤ o.t ∧ (o.ph ≠ 2 → (o.c : Int) < o.t) ∧ o.ph ≠ 1)
/-- what an operation is, behind an action -/
def stepQ (ws : List Int) (o : OpQ) : OpQ :=
  if o.ph = 2 then o
  else if o.k = 1 then
    if o.ph = 0 then { o with ph := 1, saw := ws.getD o.r.toNat 0 }
    else if ws.getD o.r.toNat 0 = o.saw then { o with ph := 2, xs := [afterW o.saw o.v] } else { o with ph := 0 }
  else if o.k = 2 then { o with ph := 2, xs := [ws.getD o.r.toNat 0] }
  else if o.lw.length + 1 < ws.length then { o with lw := o.lw ++ [ws.getD o.lw.length 0] }
  else if o.lw ++ [ws.getD o.lw.length 0] = o.la ∨ (o.c : Int) + 1 = o.t then { o with ph := 2, c := o.c + 1, cl := decide (o.lw ++ [ws.getD o.lw.length 0] = o.la), xs := o.lw ++ [ws.getD o.lw.length 0] }
  else { o with c := o.c + 1, la := o.lw ++ [ws.getD o.lw.length 0], lw := [] }
/-- what the words are, behind an action -/
def stepQW (ws : List Int) (o : OpQ) : List Int := if o.k = 1 ∧ o.ph = 1 ∧ ws.getD o.r.toNat 0 = o.saw then ws.set o.r.toNat (afterW o.saw o.v) else ws
/-- what an action did: its five cells -/
def didQ (ws : List Int) (o : OpQ) : Int × Int × Int × Int × Bool :=
  if o.ph = 2 then (0, 0, 0, 0, false)
  else if o.k = 1 ∧ o.ph = 1 then
    if ws.getD o.r.toNat 0 = o.saw then (5, o.r, o.saw, afterW o.saw o.v, true) else (5, o.r, ws.getD o.r.toNat 0, ws.getD o.r.toNat 0, false)
  else if o.k = 3 then (1, (o.lw.length : Int), ws.getD o.lw.length 0, ws.getD o.lw.length 0, true)
  else (1, o.r, ws.getD o.r.toNat 0, ws.getD o.r.toNat 0, true)
def didV (d : Int × Int × Int × Int × Bool) : Value := .agg #[.int .u8 d.1, .int .i64 d.2.1, .int .u64 d.2.2.1, .int .u64 d.2.2.2.1, .bool d.2.2.2.2]
/-- an operation at block bp; F: the blocks that are its own -/
structure PendQ (w : World) (lo bk n bp : Nat) (o : OpQ) (F : List Nat) : Prop where
  self : bp ∈ F
  lows : ∀ q ∈ F, lo ≤ q ∧ q < w.heap.size
  put0 : o.k = 1 → o.ph = 0 → ∃ saw, Row w bp 82 (pendP bk 1 o.r o.v 0 (fnV 30) saw nilS nilS 0 nilS false 0)
  put1 : o.k = 1 → o.ph = 1 → Row w bp 82 (pendP bk 1 o.r o.v 0 (fnV 46) o.saw nilS nilS 0 nilS false 0)
  get0 : o.k = 2 → o.ph = 0 → Row w bp 82 (pendP bk 2 o.r 0 0 (fnV 31) 0 nilS nilS 0 nilS false 0)
  scan : o.k = 3 → o.ph = 0 → ∃ va vw, ScanS w lo bk bp o.t o.c o.la o.lw va vw ∧ (∀ q, va.ownBlock = some q → q ∈ F) ∧ (∀ q, vw.ownBlock = some q → q ∈ F) ∧ (o.la = [] ∧ va = .slice none 0 0 ∨ o.la.length = n) ∧ o.lw.length < n ∧ ∀ y ∈ o.lw, U64 y
  ended : o.ph = 2 → ∃ b k r v t saw va vw c, Row w bp 82 (pendP bk k r v t .nilFunc saw va vw c (.slice (some ⟨b, 0, none⟩) o.xs.length o.xs.length) o.cl (if o.k = 3 then (o.c : Int) else 0)) ∧ Row w b 60 (regCells o.xs) ∧ b ∈ F ∧ 0 < o.xs.length ∧ o.xs.length ≤ 64
  phase : o.ph ≤ 2
  own : ∃ l, Row w bp 82 l
section
variable {w w' : World} {lo bk n bp : Nat} {o : OpQ} {F : List Nat}
theorem PendQ.lt (h : PendQ w lo bk n bp o F) : bp < w.heap.size := (h.lows bp h.self).2
theorem PendQ.part {S : List Nat} (h : PendQ w lo bk n bp o F) (hp : Part S w w') (hF : ∀ q ∈ F, q ∉ S) : PendQ w' lo bk n bp o F := by
  have hb := hF bp h.self
  refine ⟨h.self, fun q hq => ⟨(h.lows q hq).1, Nat.lt_of_lt_of_le (h.lows q hq).2 hp.size⟩, fun a b => ?_, fun a b => (h.put1 a b).part hp hb, fun a b => (h.get0 a b).part hp hb, fun a b => ?_, fun a => ?_, h.phase, ?_⟩
  · obtain ⟨s, hr⟩ := h.put0 a b; exact ⟨s, hr.part hp hb⟩
  · obtain ⟨va, vw, hS, h1, h2, h3⟩ := h.scan a b
    exact ⟨va, vw, hS.part hp hb (fun q hq => hF q (h1 q hq)) (fun q hq => hF q (h2 q hq)), h1, h2, h3⟩
  · obtain ⟨b, k, r, v, t, saw, va, vw, c, hr, hrb, hbF, h3⟩ := h.ended a
    exact ⟨b, k, r, v, t, saw, va, vw, c, hr.part hp hb, hrb.part hp (hF b hbF), hbF, h3⟩
  · obtain ⟨l, hr⟩ := h.own; exact ⟨l, hr.part hp hb⟩
end
/-- what a step leaves of an operation -/
def SteppedQ (w : World) (lo bk bw n bp : Nat) (ws : List Int) (o : OpQ) (F : List Nat) (e : Ending) (w' : World) : Prop :=
  e = .returned (.tuple #[didV (didQ ws o), .bool (decide ((stepQ ws o).ph = 2))]) ∧ Words w' bk bw (stepQW ws o) ∧ (∃ F', PendQ w' lo bk n bp (stepQ ws o) F' ∧ ∀ q ∈ F', q ∈ F ∨ w.heap.size ≤ q) ∧ Part (bw :: F) w w'
theorem stepped_fin {w w2 w' : World} {bk bw bp : Nat} {ws ws' : List Int} {l' : List Value} {o : Obj} (h : Words w bk bw ws) (hbp : bp < w.heap.size) (hW : Words w2 bk bw ws') (hr : Row w2 bp 82 l') (hP : Part [bw, bp] (w.alloc o) w2) (hE : Part [w.heap.size] w2 w') :
    Words w' bk bw ws' ∧ Row w' bp 82 l' ∧ Part [bw, bp] w w' := by
  have h1 := h.head.lt
  have h2 := h.row.lt
  refine ⟨hW.part hE (by simp; omega) (by simp; omega), hr.part hE (by simp; omega), Part.trans (S' := [w.heap.size]) (Part.trans (S' := [bw, bp]) ((Part.refl [bw, bp] w).alloc _) hP (fun _ _ hm => hm)) hE (fun q hq hm => ?_)⟩
  simp at hm
  omega
theorem nodid_new {w w2 : World} {bw bp : Nat} (hbw : bw < w.heap.size) (hbp : bp < w.heap.size) (hP : Part [bw, bp] (w.alloc (.cells noDid.toArray 48)) w2) : Row w2 w.heap.size 48 noDid := (Row.new w _ _).part hP (by simp; omega)
theorem part_F {w w' : World} {bw bp : Nat} {F : List Nat} (h : Part [bw, bp] w w') (hF : bp ∈ F) : Part (bw :: F) w w' := h.mono (fun q _ hm => by
  simp at hm
  rcases hm with rfl | rfl
  · simp
  · simp [hF])

set_option maxRecDepth 100000
section
variable {w : World} {lo bk bw n bp : Nat} {ws : List Int} {o : OpQ} {F : List Nat}
theorem qstep_put0 (h : Words w bk bw ws) (hn : ws.length = n) (hq : PendQ w lo bk n bp o F) (hk : o.k = 1) (hph : o.ph = 0) {i : Nat} (hr : o.r = (i : Int)) (hi : i < n) :
    Calls Try.prog 14 #[.pointer (some ⟨bp, 0, none⟩)] w (SteppedQ w lo bk bw n bp ws o F) := by
  obtain ⟨saw, hrow⟩ := hq.put0 hk hph
  have hbw := h.row.lt
  have hbp := hq.lt
  obtain ⟨x, hx⟩ : ∃ x, ws[i]? = some x := ⟨_, List.getElem?_eq_getElem (by omega)⟩
  have hg : ws.getD o.r.toNat 0 = x := by rw [hr]; simp [List.getD, hx]
  have hs : stepQ ws o = { o with ph := 1, saw := x } := by unfold stepQ; rw [if_neg (by omega), if_pos hk, if_pos hph, hg]
  have hw : stepQW ws o = ws := by simp [stepQW, hph]
  have hd : didQ ws o = (1, (i : Int), x, x, true) := by unfold didQ; rw [if_neg (by omega), if_neg (by omega), if_neg (by omega), hg, hr]
  rw [hr] at hrow
  have hc := fload_any (h.alloc (.cells noDid.toArray 48)) hx (hrow.alloc _)
  unfold SteppedQ
  rw [hs, hw, hd]
  refine (pstep_load_false (x0 := 1) (x1 := (i : Int)) (x2 := x) (x3 := x) (x4 := true) (nf := 46) (G := fun w2 => Words w2 bk bw ws ∧ Row w2 bp 82 (pendP bk 1 (i : Int) o.v 0 (fnV 46) x nilS nilS 0 nilS false 0) ∧ Part [bw, bp] (w.alloc (.cells noDid.toArray 48)) w2) hrow (hc.mono ?_)).mono ?_
  · rintro e w2 ⟨rfl, hW, hR, hP⟩
    exact ⟨rfl, ⟨_, _, _, _, _, _, _, _, _, _, _, _, hR⟩, nodid_new hbw hbp hP, hW, hR, hP⟩
  · rintro e w' ⟨w2, rfl, ⟨hW, hR, hP⟩, hE⟩
    obtain ⟨a1, a2, a3⟩ := stepped_fin h hbp hW hR hP hE
    refine ⟨rfl, a1, ⟨F, ⟨hq.self, fun q hm => ⟨(hq.lows q hm).1, Nat.lt_of_lt_of_le (hq.lows q hm).2 a3.size⟩, fun _ e => by simp at e, fun _ _ => by rw [hr]; exact a2, fun e => by simp [hk] at e, fun e => by simp [hk] at e, fun e => by simp at e, by simp, ⟨_, a2⟩⟩, fun q hm => .inl hm⟩, part_F a3 hq.self⟩
theorem qstep_miss (h : Words w bk bw ws) (hn : ws.length = n) (hq : PendQ w lo bk n bp o F) (hk : o.k = 1) (hph : o.ph = 1) {i : Nat} (hr : o.r = (i : Int)) (hi : i < n) (hv : U32 o.v) (hsw : U64 o.saw) {x : Int} (hx : ws[i]? = some x) (hne : ¬ x = o.saw) :
    Calls Try.prog 14 #[.pointer (some ⟨bp, 0, none⟩)] w (SteppedQ w lo bk bw n bp ws o F) := by
  have hrow := hq.put1 hk hph
  have hbw := h.row.lt
  have hbp := hq.lt
  have hg : ws.getD o.r.toNat 0 = x := by rw [hr]; simp [List.getD, hx]
  have hs : stepQ ws o = { o with ph := 0 } := by unfold stepQ; rw [if_neg (by omega), if_pos hk, if_neg (by omega), hg, if_neg hne]
  have hw : stepQW ws o = ws := by unfold stepQW; rw [hg, if_neg (by simp [hne])]
  have hd : didQ ws o = (5, (i : Int), x, x, false) := by unfold didQ; rw [if_neg (by omega), if_pos ⟨hk, hph⟩, hg, if_neg hne, hr]
  rw [hr] at hrow
  have hc := fswap_miss (h.alloc (.cells noDid.toArray 48)) hx hsw hne hv (hrow.alloc _)
  unfold SteppedQ
  rw [hs, hw, hd]
  refine (pstep_swap_false (x0 := 5) (x1 := (i : Int)) (x2 := x) (x3 := x) (x4 := false) (nf := 30) (G := fun w2 => Words w2 bk bw ws ∧ Row w2 bp 82 (pendP bk 1 (i : Int) o.v 0 (fnV 30) o.saw nilS nilS 0 nilS false 0) ∧ Part [bw, bp] (w.alloc (.cells noDid.toArray 48)) w2) hrow (hc.mono ?_)).mono ?_
  · rintro e w2 ⟨rfl, hW, hR, hP⟩
    exact ⟨rfl, ⟨_, _, _, _, _, _, _, _, _, _, _, _, hR⟩, nodid_new hbw hbp hP, hW, hR, hP⟩
  · rintro e w' ⟨w2, rfl, ⟨hW, hR, hP⟩, hE⟩
    obtain ⟨a1, a2, a3⟩ := stepped_fin h hbp hW hR hP hE
    refine ⟨rfl, a1, ⟨F, ⟨hq.self, fun q hm => ⟨(hq.lows q hm).1, Nat.lt_of_lt_of_le (hq.lows q hm).2 a3.size⟩, fun _ _ => ⟨o.saw, by rw [hr]; exact a2⟩, fun _ e => by simp at e, fun e => by simp [hk] at e, fun e => by simp [hk] at e, fun e => by simp at e, by simp, ⟨_, a2⟩⟩, fun q hm => .inl hm⟩, part_F a3 hq.self⟩
theorem ended_fin {w2 w' : World} {b : Nat} {ws' xs : List Int} {l' : List Value} {ob : Obj} (h : Words w bk bw ws) (hq : PendQ w lo bk n bp o F) (hW : Words w2 bk bw ws') (hR : Row w2 bp 82 l') (hrb : Row w2 b 60 (regCells xs)) (hb : (w.alloc ob).heap.size ≤ b) (hP : Part [bw, bp] (w.alloc ob) w2) (hE : Part [w.heap.size] w2 w') (hlo : lo ≤ w.heap.size) :
    Words w' bk bw ws' ∧ Row w' bp 82 l' ∧ Row w' b 60 (regCells xs) ∧ Part [bw, bp] w w' ∧ w.heap.size ≤ b ∧ (∀ q ∈ b :: F, lo ≤ q ∧ q < w'.heap.size) := by
  obtain ⟨a1, a2, a3⟩ := stepped_fin h hq.lt hW hR hP hE
  rw [World.size_alloc] at hb
  have hrb' := hrb.part hE (by simp; omega)
  refine ⟨a1, a2, hrb', a3, by omega, fun q hm => ?_⟩
  rcases List.mem_cons.1 hm with rfl | hm
  · exact ⟨by omega, hrb'.lt⟩
  · exact ⟨(hq.lows q hm).1, Nat.lt_of_lt_of_le (hq.lows q hm).2 a3.size⟩
theorem qstep_hit (h : Words w bk bw ws) (hn : ws.length = n) (hq : PendQ w lo bk n bp o F) (hlo : lo ≤ w.heap.size) (hcl : o.cl = false) (hk : o.k = 1) (hph : o.ph = 1) {i : Nat} (hr : o.r = (i : Int)) (hi : i < n) (hv : U32 o.v) (hx : ws[i]? = some o.saw) :
    Calls Try.prog 14 #[.pointer (some ⟨bp, 0, none⟩)] w (SteppedQ w lo bk bw n bp ws o F) := by
  have hrow := hq.put1 hk hph
  have hbw := h.row.lt
  have hbp := hq.lt
  have hg : ws.getD o.r.toNat 0 = o.saw := by rw [hr]; simp [List.getD, hx]
  have hs : stepQ ws o = { o with ph := 2, xs := [afterW o.saw o.v] } := by unfold stepQ; rw [if_neg (by omega), if_pos hk, if_neg (by omega), hg, if_pos rfl]
  have hw : stepQW ws o = ws.set i (afterW o.saw o.v) := by unfold stepQW; rw [hg, if_pos ⟨hk, hph, rfl⟩, hr]; rfl
  have hd : didQ ws o = (5, (i : Int), o.saw, afterW o.saw o.v, true) := by unfold didQ; rw [if_neg (by omega), if_pos ⟨hk, hph⟩, hg, if_pos rfl, hr]
  rw [hr] at hrow
  have hc := fswap_hit (h.alloc (.cells noDid.toArray 48)) hx hv (hrow.alloc _)
  unfold SteppedQ
  rw [hs, hw, hd]
  refine (pstep_swap_true (x0 := 5) (x1 := (i : Int)) (x2 := o.saw) (x3 := afterW o.saw o.v) (x4 := true) (G := fun w2 => ∃ b, Words w2 bk bw (ws.set i (afterW o.saw o.v)) ∧ Row w2 bp 82 (pendP bk 1 (i : Int) o.v 0 .nilFunc o.saw nilS nilS 0 (.slice (some ⟨b, 0, none⟩) 1 1) false 0) ∧ Row w2 b 60 (regCells [afterW o.saw o.v]) ∧ (w.alloc (.cells noDid.toArray 48)).heap.size ≤ b ∧ Part [bw, bp] (w.alloc (.cells noDid.toArray 48)) w2) hrow (hc.mono ?_)).mono ?_
  · rintro e w2 ⟨b, rfl, hW, hR, hrb, hb, hP⟩
    exact ⟨rfl, ⟨_, _, _, _, _, _, _, _, _, _, _, _, hR⟩, nodid_new hbw hbp hP, b, hW, hR, hrb, hb, hP⟩
  · rintro e w' ⟨w2, rfl, ⟨b, hW, hR, hrb, hb, hP⟩, hE⟩
    obtain ⟨a1, a2, a3, a4, a5, a6⟩ := ended_fin h hq hW hR hrb hb hP hE hlo
    exact ⟨rfl, a1, ⟨b :: F, ⟨by simp [hq.self], a6, fun _ e => by simp at e, fun _ e => by simp at e, fun _ e => by simp at e, fun _ e => by simp at e, fun _ => ⟨b, _, _, _, _, _, _, _, _, by simpa [hk, hcl] using a2, a3, by simp, by simp, by simp⟩, by simp, ⟨_, a2⟩⟩, fun q hm => by
      rcases List.mem_cons.1 hm with rfl | hm
      · exact .inr a5
      · exact .inl hm⟩, part_F a4 hq.self⟩
theorem qstep_get (h : Words w bk bw ws) (hn : ws.length = n) (hq : PendQ w lo bk n bp o F) (hlo : lo ≤ w.heap.size) (hk : o.k = 2) (hph : o.ph = 0) {i : Nat} (hr : o.r = (i : Int)) (hi : i < n) (hcl : o.cl = false) :
    Calls Try.prog 14 #[.pointer (some ⟨bp, 0, none⟩)] w (SteppedQ w lo bk bw n bp ws o F) := by
  have hrow := hq.get0 hk hph
  have hbw := h.row.lt
  have hbp := hq.lt
  obtain ⟨x, hx⟩ : ∃ x, ws[i]? = some x := ⟨_, List.getElem?_eq_getElem (by omega)⟩
  have hg : ws.getD o.r.toNat 0 = x := by rw [hr]; simp [List.getD, hx]
  have hs : stepQ ws o = { o with ph := 2, xs := [x] } := by unfold stepQ; rw [if_neg (by omega), if_neg (by omega), if_pos hk, hg]
  have hw : stepQW ws o = ws := by unfold stepQW; rw [if_neg (by omega)]
  have hd : didQ ws o = (1, (i : Int), x, x, true) := by unfold didQ; rw [if_neg (by omega), if_neg (by omega), if_neg (by omega), hg, hr]
  rw [hr] at hrow
  have hc := fget_any (h.alloc (.cells noDid.toArray 48)) hx (hrow.alloc _)
  unfold SteppedQ
  rw [hs, hw, hd]
  refine (pstep_get_true (x0 := 1) (x1 := (i : Int)) (x2 := x) (x3 := x) (x4 := true) (G := fun w2 => ∃ b, Words w2 bk bw ws ∧ Row w2 bp 82 (pendP bk 2 (i : Int) 0 0 .nilFunc 0 nilS nilS 0 (.slice (some ⟨b, 0, none⟩) 1 1) false 0) ∧ Row w2 b 60 (regCells [x]) ∧ (w.alloc (.cells noDid.toArray 48)).heap.size ≤ b ∧ Part [bw, bp] (w.alloc (.cells noDid.toArray 48)) w2) hrow (hc.mono ?_)).mono ?_
  · rintro e w2 ⟨b, rfl, hW, hR, hrb, hb, hP⟩
    exact ⟨rfl, ⟨_, _, _, _, _, _, _, _, _, _, _, _, hR⟩, nodid_new hbw hbp hP, b, hW, hR, hrb, hb, hP⟩
  · rintro e w' ⟨w2, rfl, ⟨b, hW, hR, hrb, hb, hP⟩, hE⟩
    obtain ⟨a1, a2, a3, a4, a5, a6⟩ := ended_fin h hq hW hR hrb hb hP hE hlo
    exact ⟨rfl, a1, ⟨b :: F, ⟨by simp [hq.self], a6, fun _ e => by simp at e, fun _ e => by simp at e, fun _ e => by simp at e, fun _ e => by simp at e, fun _ => ⟨b, _, _, _, _, _, _, _, _, by simpa [hk, hcl] using a2, a3, by simp, by simp, by simp⟩, by simp, ⟨_, a2⟩⟩, fun q hm => by
      rcases List.mem_cons.1 hm with rfl | hm
      · exact .inr a5
      · exact .inl hm⟩, part_F a4 hq.self⟩
theorem part_S {w' : World} {vw : Value} (h : Part ([bw, bp] ++ vw.ownBlock.toList) w w') (h1 : bp ∈ F) (h2 : ∀ q, vw.ownBlock = some q → q ∈ F) : Part (bw :: F) w w' := h.mono (fun q _ hm => by
  simp at hm
  rcases hm with rfl | rfl | hm
  · simp
  · simp [h1]
  · simp [h2 q hm])
theorem qstep_scan (h : Words w bk bw ws) (hn : ws.length = n) (h64 : n ≤ 64) (hq : PendQ w lo bk n bp o F) (hlo : lo ≤ w.heap.size) (hk : o.k = 3) (hph : o.ph = 0) (ht : 1 ≤ o.t) (ht' : o.t ≤ 1024) (hct : (o.c : Int) < o.t) :
    Calls Try.prog 14 #[.pointer (some ⟨bp, 0, none⟩)] w (SteppedQ w lo bk bw n bp ws o F) := by
  obtain ⟨va, vw, hS, hva, hvw, hla, hlt, hu⟩ := hq.scan hk hph
  obtain ⟨x, hx⟩ : ∃ x, ws[o.lw.length]? = some x := ⟨_, List.getElem?_eq_getElem (by omega)⟩
  have hxu := h.u64 hx
  have hg : ws.getD o.lw.length 0 = x := by simp [List.getD, hx]
  have hw : stepQW ws o = ws := by unfold stepQW; rw [if_neg (by omega)]
  have hd : didQ ws o = (1, (o.lw.length : Int), x, x, true) := by unfold didQ; rw [if_neg (by omega), if_neg (by omega), if_pos hk, hg]
  have hlows : ∀ {w' : World}, w.heap.size ≤ w'.heap.size → ∀ q ∈ F, lo ≤ q ∧ q < w'.heap.size := fun hsz q hm => ⟨(hq.lows q hm).1, Nat.lt_of_lt_of_le (hq.lows q hm).2 hsz⟩
  unfold SteppedQ
  rw [hw, hd]
  by_cases hm : o.lw.length + 1 < ws.length
  · have hs : stepQ ws o = { o with lw := o.lw ++ [x] } := by unfold stepQ; rw [if_neg (by omega), if_neg (by omega), if_neg (by omega), if_pos hm, hg]
    rw [hs]
    refine (scan_more h (by omega) hS hx hlo hm).mono ?_
    rintro e w' ⟨rfl, hW, ⟨vw', hS', hf⟩, hP⟩
    have hown := own_block hS'.words
    refine ⟨by simp [hph]; rfl, hW, ⟨vw'.ownBlock.toList ++ F, ⟨by simp [hq.self], fun q hm => ?_, fun e => by simp [hk] at e, fun e => by simp [hk] at e, fun e => by simp [hk] at e, fun _ _ => ⟨va, vw', hS', fun q e => by simp [hva q e], fun q e => by simp [e], hla, by simp; omega, fun y hy => ?_⟩, fun e => by simp [hph] at e, by simp [hph], ⟨_, hS'.pend⟩⟩, fun q hm => ?_⟩, part_S hP hq.self hvw⟩
    · rcases List.mem_append.1 hm with hm | hm
      · have e : vw'.ownBlock = some q := by simpa using hm
        exact ⟨own_from hS'.words q e, hown q e⟩
      · exact hlows hP.size q hm
    · rcases List.mem_append.1 hy with hy | hy
      · exact hu y hy
      · simp at hy; subst hy; exact hxu
    · rcases List.mem_append.1 hm with hm | hm
      · have e : vw'.ownBlock = some q := by simpa using hm
        rcases hf with hf | ⟨g, hf, hgl⟩
        · left; exact hvw q (by rw [← hf]; exact e)
        · right; rw [hf] at e; cases e; exact hgl
      · exact .inl hm
  · have hm' : o.lw.length + 1 = ws.length := by omega
    by_cases hend : o.lw ++ [x] = o.la ∨ (o.c : Int) + 1 = o.t
    · have hs : stepQ ws o = { o with ph := 2, c := o.c + 1, cl := decide (o.lw ++ [x] = o.la), xs := o.lw ++ [x] } := by unfold stepQ; rw [if_neg (by omega), if_neg (by omega), if_neg (by omega), if_neg hm, hg, if_pos hend]
      rw [hs]
      refine (scan_end h (by omega) hS hx hlo hm' hu (by omega) rfl (fun hf => ?_)).mono ?_
      · rw [decide_eq_false_iff_not] at hf
        rcases hend with e | e
        · exact absurd e hf
        · rw [beq_iff_eq]; exact e
      · rintro e w' ⟨rfl, hW, ⟨b, ⟨⟨va', vw', hr⟩, hrb, hlb⟩, hbl⟩, hP⟩
        refine ⟨rfl, hW, ⟨b :: F, ⟨by simp [hq.self], fun q hm => ?_, fun _ e => by simp at e, fun _ e => by simp at e, fun _ e => by simp at e, fun _ e => by simp at e, fun _ => ⟨b, _, _, _, _, _, _, _, _, by simpa [hk, scanL] using hr, hrb, by simp, by simp, by simp; omega⟩, by simp, ⟨_, hr⟩⟩, fun q hm => ?_⟩, part_S hP hq.self hvw⟩
        · rcases List.mem_cons.1 hm with rfl | hm
          · exact ⟨hlb, hrb.lt⟩
          · exact hlows hP.size q hm
        · rcases List.mem_cons.1 hm with rfl | hm
          · exact .inr hbl
          · exact .inl hm
    · have hs : stepQ ws o = { o with c := o.c + 1, la := o.lw ++ [x], lw := [] } := by unfold stepQ; rw [if_neg (by omega), if_neg (by omega), if_neg (by omega), if_neg hm, hg, if_neg hend]
      rw [hs]
      have h1 : ¬ o.lw ++ [x] = o.la := fun e => hend (.inl e)
      have h2 : ¬ (o.c : Int) + 1 = o.t := fun e => hend (.inr e)
      refine (scan_again h (by omega) hS hx hlo hm' hu (by omega) (decide_eq_false h1) (by rw [beq_eq_false_iff_ne]; exact h2) (by rw [hn]; exact hla)).mono ?_
      rintro e w' ⟨rfl, hW, ⟨va', vw', hS', hf, hf'⟩, hP⟩
      have hown := own_block hS'.ahead
      refine ⟨by simp [hph]; rfl, hW, ⟨va'.ownBlock.toList ++ F, ⟨by simp [hq.self], fun q hm => ?_, fun e => by simp [hk] at e, fun e => by simp [hk] at e, fun e => by simp [hk] at e, fun _ _ => ⟨va', vw', hS', fun q e => by simp [e], fun q e => by simp [hva q (by rw [← hf']; exact e)], .inr (by simp; omega), by simp; omega, fun y hy => by simp at hy⟩, fun e => by simp [hph] at e, by simp [hph], ⟨_, hS'.pend⟩⟩, fun q hm => ?_⟩, part_S hP hq.self hvw⟩
      · rcases List.mem_append.1 hm with hm | hm
        · have e : va'.ownBlock = some q := by simpa using hm
          exact ⟨own_from hS'.ahead q e, hown q e⟩
        · exact hlows hP.size q hm
      · rcases List.mem_append.1 hm with hm | hm
        · have e : va'.ownBlock = some q := by simpa using hm
          rcases hf with hf | ⟨g, hf, hgl⟩
          · left; exact hvw q (by rw [← hf]; exact e)
          · right; rw [hf] at e; cases e; exact hgl
        · exact .inl hm
theorem qstep_over (h : Words w bk bw ws) (hq : PendQ w lo bk n bp o F) (hph : o.ph = 2) :
    Calls Try.prog 14 #[.pointer (some ⟨bp, 0, none⟩)] w (SteppedQ w lo bk bw n bp ws o F) := by
  obtain ⟨b, k, r, v, t, saw, va, vw, c, hr, _⟩ := hq.ended hph
  have hs : stepQ ws o = o := by unfold stepQ; rw [if_pos hph]
  have hw : stepQW ws o = ws := by unfold stepQW; rw [if_neg (by omega)]
  have hd : didQ ws o = (0, 0, 0, 0, false) := by unfold didQ; rw [if_pos hph]
  unfold SteppedQ
  rw [hs, hw, hd]
  refine (pstep_over hr).mono ?_
  rintro e w' ⟨rfl, hb⟩
  refine ⟨by rw [decide_eq_true hph]; rfl, h.on hb, ⟨F, hq.part (Part.of_below hb (Nat.le_refl _) []) (by simp), fun q hm => .inl hm⟩, Part.of_below hb (Nat.le_refl _) _⟩
/-- Step, whatever the operation -/
theorem qstep_op (h : Words w bk bw ws) (hn : ws.length = n) (h64 : n ≤ 64) (hq : PendQ w lo bk n bp o F) (hlo : lo ≤ w.heap.size) (hok : OkQ n o) :
    Calls Try.prog 14 #[.pointer (some ⟨bp, 0, none⟩)] w (SteppedQ w lo bk bw n bp ws o F) := by
  have hle := hq.phase
  by_cases h2 : o.ph = 2
  · exact qstep_over h hq h2
  rcases hok with ⟨hk, ⟨i, hr, hi⟩, hv, ht, hsw, hcl⟩ | ⟨hk, ⟨i, hr, hi⟩, hv, ht, h1, hcl⟩ | ⟨hk, hr, hv, ht, ht', hct, hct', h1⟩
  · by_cases h0 : o.ph = 0
    · exact qstep_put0 h hn hq hk h0 hr hi
    · have h1 : o.ph = 1 := by omega
      obtain ⟨x, hx⟩ : ∃ x, ws[i]? = some x := ⟨_, List.getElem?_eq_getElem (by omega)⟩
      by_cases e : x = o.saw
      · subst e
        exact qstep_hit h hn hq hlo hcl hk h1 hr hi hv hx
      · exact qstep_miss h hn hq hk h1 hr hi hv hsw hx e
  · exact qstep_get h hn hq hlo hk (by omega) hr hi hcl
  · exact qstep_scan h hn h64 hq hlo hk (by omega) ht ht' (hct' h2)
theorem qdone_op {d : Bool} (hq : PendQ w lo bk n bp o F) (hok : OkQ n o) (hd : decide (o.ph = 2) = d) :
    Calls Try.prog 16 #[.pointer (some ⟨bp, 0, none⟩)] w fun e w' => e = .returned (.bool d) ∧ w = w' := by
  subst hd
  have hle := hq.phase
  by_cases h2 : o.ph = 2
  · obtain ⟨b, k, r, v, t, saw, va, vw, c, hr, _⟩ := hq.ended h2
    rw [decide_eq_true h2]
    exact pdone_yes hr
  · rw [decide_eq_false h2]
    rcases hok with ⟨hk, _⟩ | ⟨hk, _, _, _, h1, _⟩ | ⟨hk, _, _, _, _, _, _, h1⟩
    · by_cases h0 : o.ph = 0
      · obtain ⟨s, hr⟩ := hq.put0 hk h0
        exact pdone_no hr
      · exact pdone_no (hq.put1 hk (by omega))
    · exact pdone_no (hq.get0 hk (by omega))
    · obtain ⟨va, vw, hS, _⟩ := hq.scan hk (by omega)
      exact pdone_no hS.pend
/-- the answer, of an operation that has ended -/
theorem qanswer_op (hq : PendQ w lo bk n bp o F) (hph : o.ph = 2) {m : Nat} {cl : Bool} {q : Int} (hm : o.xs.length = m) (hcl : o.cl = cl) (hqq : (if o.k = 3 then (o.c : Int) else 0) = q) :
    Calls Try.prog 18 #[.pointer (some ⟨bp, 0, none⟩)] w fun e w' => ∃ b' cb, e = .returned (.agg #[.slice (some ⟨b', 0, none⟩) m cb, .bool cl, .int .i64 q]) ∧ w.heap.size ≤ b' ∧ w'.ownsRow w.heap.size 60 2 (.slice (some ⟨b', 0, none⟩) m cb) m (regCells o.xs) ∧ Below w.heap.size w w' := by
  subst hcl
  subst hqq
  obtain ⟨b, k, r, v, t, saw, va, vw, c, hr, hrb, _, h0, h64⟩ := hq.ended hph
  rw [hm] at hr
  exact panswer_any hr hrb hm (by omega) (by omega)
theorem qanswer_none (hq : PendQ w lo bk n bp o F) (hok : OkQ n o) (hph : o.ph ≠ 2) :
    Calls Try.prog 18 #[.pointer (some ⟨bp, 0, none⟩)] w fun e w' => e = .returned noView ∧ Below w.heap.size w w' := by
  have hle := hq.phase
  rcases hok with ⟨hk, _⟩ | ⟨hk, _, _, _, h1, _⟩ | ⟨hk, _, _, _, _, _, _, h1⟩
  · by_cases h0 : o.ph = 0
    · obtain ⟨s, hr⟩ := hq.put0 hk h0
      exact panswer_none hr
    · exact panswer_none (hq.put1 hk (by omega))
  · exact panswer_none (hq.get0 hk (by omega))
  · obtain ⟨va, vw, hS, _⟩ := hq.scan hk (by omega)
    exact panswer_none hS.pend
/-- an operation stays right -/
theorem stepQ_ok (hu : ∀ x ∈ ws, U64 x) (hn : ws.length = n) (hok : OkQ n o) : OkQ n (stepQ ws o) := by
  unfold stepQ
  split
  · exact hok
  · rename_i h2
    rcases hok with ⟨hk, ⟨i, hr, hi⟩, hv, ht, hsw, hcl⟩ | ⟨hk, ⟨i, hr, hi⟩, hv, ht, h1, hcl⟩ | ⟨hk, hr, hv, ht, ht', hct, hct', h1⟩
    · rw [if_pos hk]
      have hx : U64 (ws.getD o.r.toNat 0) := by
        rw [hr]
        have : ws[i]? = some (ws.getD i 0) := by simp [List.getD, show i < ws.length by omega]
        exact hu _ (List.mem_of_getElem? this)
      split
      · exact .inl ⟨hk, ⟨i, hr, hi⟩, hv, ht, hx, hcl⟩
      · split
        · exact .inl ⟨hk, ⟨i, hr, hi⟩, hv, ht, hsw, hcl⟩
        · exact .inl ⟨hk, ⟨i, hr, hi⟩, hv, ht, hsw, hcl⟩
    · rw [if_neg (by omega), if_pos hk]
      exact .inr (.inl ⟨hk, ⟨i, hr, hi⟩, hv, ht, by simp, hcl⟩)
    · rw [if_neg (by omega), if_neg (by omega)]
      have hc := hct' h2
      split
      · exact .inr (.inr ⟨hk, hr, hv, ht, ht', hct, hct', h1⟩)
      · split
        · exact .inr (.inr ⟨hk, hr, hv, ht, ht', by simp; omega, fun e => absurd rfl e, by simp⟩)
        · rename_i he
          refine .inr (.inr ⟨hk, hr, hv, ht, ht', by simp; omega, fun _ => ?_, h1⟩)
          have : ¬ (o.c : Int) + 1 = o.t := fun e => he (.inr e)
          simp
          omega
theorem stepQW_ok (hu : ∀ x ∈ ws, U64 x) (hok : OkQ n o) : ∀ x ∈ stepQW ws o, U64 x := by
  unfold stepQW
  split
  · rename_i h
    rcases hok with ⟨hk, _, hv, _⟩ | ⟨hk, _⟩ | ⟨hk, _⟩
    · intro x hx
      rcases List.mem_or_eq_of_mem_set hx with hx | rfl
      · exact hu x hx
      · exact afterW_u64 hv
    · omega
    · omega
  · exact hu
theorem stepQW_length (ws : List Int) (o : OpQ) : (stepQW ws o).length = ws.length := by unfold stepQW; split <;> simp
end
end Go.Proofs.Ytdadgppbpomdoaa
