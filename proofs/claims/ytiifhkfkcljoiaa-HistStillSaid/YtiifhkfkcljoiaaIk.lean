/- THE WALKS of package hist: an operation as plain data; Step as one contract. -/
import Derived.Test.YtiifhkfkcljoiaaIj
import Derived.Deep.RegionLaw
import Derived.Deep.AppendLies
import Derived.Laws.MakeOwn
namespace Go.Proofs.Ytiifhkfkcljoiaa
open Go Go.RowKit
set_option maxRecDepth 100000
/-- an operation: its kind (1: a record, 2: a show), its number, how often, its bucket; where it stands; what it has seen -/
structure OpH where
  k : Int
  v : Int
  n : Int
  i : Nat
  at_ : Nat
  ld : Bool
  saw : Int
  en : Bool
  c : Int
  su : Int
  le : Int
  gr : Int
  bu : List Int
/-- the word at a place -/
def gw (ws : List Int) (j : Nat) : Int := ws.getD j 0
def v1 (v : Int) : Int := IntKind.u64.wrap (v + 1)
def newR (v n : Int) (i : Nat) : OpH := ⟨1, v, n, i, 0, false, 0, false, 0, 0, 0, 0, []⟩
def newS : OpH := ⟨2, 0, 0, 0, 0, false, 0, false, 0, 0, 0, 0, []⟩
def stepH (m : Nat) (ws : List Int) (o : OpH) : OpH :=
  if o.en = true then o
  else if o.k = 1 then
    if o.at_ = 0 then { o with at_ := 1 }
    else if o.at_ = 1 then { o with at_ := 2 }
    else if o.at_ = 2 then
      if o.ld = true then (if gw ws (m + 1) = o.saw then { o with ld := false, at_ := 3 } else { o with ld := false })
      else if o.v < gw ws (m + 1) then { o with ld := true, saw := gw ws (m + 1) } else { o with at_ := 3 }
    else if o.at_ = 3 then
      if o.ld = true then (if gw ws (m + 2) = o.saw then { o with ld := false, at_ := 4 } else { o with ld := false })
      else if gw ws (m + 2) < v1 o.v then { o with ld := true, saw := gw ws (m + 2) } else { o with at_ := 4 }
    else { o with en := true }
  else if o.at_ = 0 then { o with c := gw ws (m + 3), at_ := 1 }
  else if o.at_ = 1 then { o with le := wrap64 (gw ws (m + 1)), at_ := 2 }
  else if o.at_ = 2 then { o with gr := wrap64 (wrap64 (gw ws (m + 2)) - 1), at_ := 3 }
  else if o.at_ = 3 then { o with su := gw ws m, at_ := 4 }
  else { o with bu := o.bu ++ [gw ws o.bu.length], at_ := o.at_ + 1, en := decide (o.bu.length + 1 = m) }
/-- the words behind its step -/
def stepW (m : Nat) (ws : List Int) (o : OpH) : List Int :=
  if o.en = true then ws
  else if o.k = 1 then
    if o.at_ = 0 then ws.set o.i (IntKind.u64.wrap (gw ws o.i + o.n))
    else if o.at_ = 1 then ws.set m (IntKind.u64.wrap (gw ws m + IntKind.u64.wrap (o.v * o.n)))
    else if o.at_ = 2 then (if o.ld = true ∧ gw ws (m + 1) = o.saw then ws.set (m + 1) o.v else ws)
    else if o.at_ = 3 then (if o.ld = true ∧ gw ws (m + 2) = o.saw then ws.set (m + 2) (v1 o.v) else ws)
    else ws.set (m + 3) (IntKind.u64.wrap (gw ws (m + 3) + o.n))
  else ws
def saw_ (c x : Int) : Array Value := #[.int .u8 1, .int .i64 c, .int .u64 x, .int .u64 x, .bool true]
/-- what its step did -/
def didH (m : Nat) (ws : List Int) (o : OpH) : Array Value :=
  if o.en = true then #[.int .u8 0, .int .i64 0, .int .u64 0, .int .u64 0, .bool false]
  else if o.k = 1 then
    if o.at_ = 0 then #[.int .u8 3, .int .i64 (o.i : Int), .int .u64 (gw ws o.i), .int .u64 (IntKind.u64.wrap (gw ws o.i + o.n)), .bool true]
    else if o.at_ = 1 then #[.int .u8 3, .int .i64 (m : Int), .int .u64 (gw ws m), .int .u64 (IntKind.u64.wrap (gw ws m + IntKind.u64.wrap (o.v * o.n))), .bool true]
    else if o.at_ = 2 then
      if o.ld = true then (if gw ws (m + 1) = o.saw then #[.int .u8 5, .int .i64 ((m : Int) + 1), .int .u64 (gw ws (m + 1)), .int .u64 o.v, .bool true] else #[.int .u8 5, .int .i64 ((m : Int) + 1), .int .u64 (gw ws (m + 1)), .int .u64 (gw ws (m + 1)), .bool false])
      else saw_ ((m : Int) + 1) (gw ws (m + 1))
    else if o.at_ = 3 then
      if o.ld = true then (if gw ws (m + 2) = o.saw then #[.int .u8 5, .int .i64 ((m : Int) + 2), .int .u64 (gw ws (m + 2)), .int .u64 (v1 o.v), .bool true] else #[.int .u8 5, .int .i64 ((m : Int) + 2), .int .u64 (gw ws (m + 2)), .int .u64 (gw ws (m + 2)), .bool false])
      else saw_ ((m : Int) + 2) (gw ws (m + 2))
    else #[.int .u8 3, .int .i64 ((m : Int) + 3), .int .u64 (gw ws (m + 3)), .int .u64 (IntKind.u64.wrap (gw ws (m + 3) + o.n)), .bool true]
  else if o.at_ = 0 then saw_ ((m : Int) + 3) (gw ws (m + 3))
  else if o.at_ = 1 then saw_ ((m : Int) + 1) (gw ws (m + 1))
  else if o.at_ = 2 then saw_ ((m : Int) + 2) (gw ws (m + 2))
  else if o.at_ = 3 then saw_ (m : Int) (gw ws m)
  else saw_ (o.bu.length : Int) (gw ws o.bu.length)
def nilU : Value := .slice none 0 0
/-- what comes next of a record -/
def NextR (bp m : Nat) (o : OpH) (w : World) (nx : Value) : Prop :=
  (o.en = true ∧ nx = .nilFunc) ∨ (o.en = false ∧ o.at_ = 0 ∧ o.ld = false ∧ R0H w bp nx (o.i : Int) o.v o.n) ∨ (o.en = false ∧ o.at_ = 1 ∧ o.ld = false ∧ R1H w bp nx (m : Int) o.v o.n)
  ∨ (o.en = false ∧ o.at_ = 2 ∧ o.ld = false ∧ R2H w bp nx (m : Int) o.v o.n) ∨ (o.en = false ∧ o.at_ = 2 ∧ o.ld = true ∧ C2H w bp nx (m : Int) o.v o.n o.saw)
  ∨ (o.en = false ∧ o.at_ = 3 ∧ o.ld = false ∧ R3H w bp nx (m : Int) o.v o.n) ∨ (o.en = false ∧ o.at_ = 3 ∧ o.ld = true ∧ C3H w bp nx (m : Int) o.v o.n o.saw)
  ∨ (o.en = false ∧ o.at_ = 4 ∧ o.ld = false ∧ R4H w bp nx (m : Int) o.n)
/-- of a show, ahead of the buckets -/
def NextS (bp m : Nat) (o : OpH) (w : World) (nx : Value) : Prop :=
  (o.at_ = 0 ∧ S1H w bp nx (m : Int)) ∨ (o.at_ = 1 ∧ S2H w bp nx (m : Int)) ∨ (o.at_ = 2 ∧ S3H w bp nx (m : Int)) ∨ (o.at_ = 3 ∧ S4H w bp nx (m : Int))
/-- among the buckets -/
def NextG (bp m : Nat) (o : OpH) (w : World) (nx : Value) (s : ShM) : Prop :=
  ∃ bb, s.bv = .slice (some ⟨bb, 0, none⟩) o.bu.length m ∧ Row w bb 38 (u64s (o.bu ++ List.replicate (m - o.bu.length) 0)) ∧ o.at_ = 4 + o.bu.length ∧ ((o.en = false ∧ o.bu.length < m ∧ GatH w bp nx (o.bu.length : Int)) ∨ (o.en = true ∧ o.bu.length = m ∧ nx = .nilFunc))
def NextH (bp m : Nat) (o : OpH) (w : World) (nx : Value) (s : ShM) : Prop :=
  (s.c = o.c ∧ s.su = o.su ∧ s.le = o.le ∧ s.gr = o.gr) ∧
  ((o.k = 1 ∧ o.bu = [] ∧ s.bv = nilU ∧ NextR bp m o w nx) ∨ (o.k = 2 ∧ o.ld = false ∧ ((o.en = false ∧ o.bu = [] ∧ s.bv = nilU ∧ NextS bp m o w nx) ∨ NextG bp m o w nx s)))
/-- an operation that may be -/
def OkH (m : Nat) (o : OpH) : Prop := o.k = 1 → U64 o.v ∧ o.i < m
/-- what a step leaves -/
def SteppedH (w : World) (bp bh bk bw : Nat) (l h d : Int) (m : Nat) (ws : List Int) (o : OpH) (s : ShM) (e : Ending) (w' : World) : Prop :=
  ∃ T, (∀ q, q ∈ T → s.bv.ownBlock = some q) ∧ StepTo w bp bh bk bw l h d m (stepW m ws o) T (didH m ws o) (stepH m ws o).en (fun w1 nx' s' => NextH bp m (stepH m ws o) w1 nx' s' ∧ ∀ q, s'.bv.ownBlock = some q → s.bv.ownBlock = some q ∨ w.heap.size ≤ q) e w'
theorem gw_get {ws : List Int} {j : Nat} (h : j < ws.length) : ws[j]? = some (gw ws j) := by
  unfold gw
  rw [List.getD_eq_getElem?_getD, List.getElem?_eq_getElem h]
  rfl
theorem wrap_u64 (x : Int) : U64 (IntKind.u64.wrap x) := by unfold U64; rw [IntKind.wrap_u64]; omega
theorem NextR.fn {bp m : Nat} {o : OpH} {w : World} {nx : Value} (h : NextR bp m o w nx) (he : o.en = false) : ∃ f cs, nx = .func (.func f) #[] cs := by
  rcases h with ⟨a, _⟩ | ⟨_, _, _, h⟩ | ⟨_, _, _, h⟩ | ⟨_, _, _, h⟩ | ⟨_, _, _, h⟩ | ⟨_, _, _, h⟩ | ⟨_, _, _, h⟩ | ⟨_, _, _, h⟩
  · rw [he] at a; cases a
  all_goals exact h.fn
theorem NextS.fn {bp m : Nat} {o : OpH} {w : World} {nx : Value} (h : NextS bp m o w nx) : ∃ f cs, nx = .func (.func f) #[] cs := by
  rcases h with ⟨_, h⟩ | ⟨_, h⟩ | ⟨_, h⟩ | ⟨_, h⟩ <;> exact h.fn
theorem NextH.fn {bp m : Nat} {o : OpH} {w : World} {nx : Value} {s : ShM} (h : NextH bp m o w nx s) (he : o.en = false) : ∃ f cs, nx = .func (.func f) #[] cs := by
  obtain ⟨_, ⟨_, _, _, h⟩ | ⟨_, _, ⟨_, _, _, h⟩ | ⟨bb, _, _, _, ⟨_, _, h⟩ | ⟨h, _⟩⟩⟩⟩ := h
  · exact h.fn he
  · exact h.fn
  · exact h.fn
  · rw [he] at h; cases h
theorem NextH.nil_ {bp m : Nat} {o : OpH} {w : World} {nx : Value} {s : ShM} (h : NextH bp m o w nx s) (he : o.en = true) : nx = .nilFunc := by
  obtain ⟨_, ⟨_, _, _, h⟩ | ⟨_, _, ⟨h, _⟩ | ⟨bb, _, _, _, ⟨h, _⟩ | ⟨_, _, h⟩⟩⟩⟩ := h
  · rcases h with ⟨_, h⟩ | ⟨h, _⟩ | ⟨h, _⟩ | ⟨h, _⟩ | ⟨h, _⟩ | ⟨h, _⟩ | ⟨h, _⟩ | ⟨h, _⟩
    · exact h
    all_goals rw [he] at h; cases h
  · rw [he] at h; cases h
  · rw [he] at h; cases h
  · exact h
section
variable {w : World} {bp bh bk bw m : Nat} {nx : Value} {s : ShM} {l h d : Int} {ws : List Int} {o : OpH}
theorem step_ended (hp : Row w bp 85 (pendH bh .nilFunc s)) : Calls Try.prog 16 #[.pointer (some ⟨bp, 0, none⟩)] w fun e w' => e = .returned (.tuple #[.agg #[.int .u8 0, .int .i64 0, .int .u64 0, .int .u64 0, .bool false], .bool true]) ∧ Below w.heap.size w w' := by
  have HD := Lib.hid (fun o => done_yes (hp.alloc o))
  clear hp
  go_enter Try.func16, Try.ntmps16
  go_wp2_with (go_at_call 18; (with_reducible refine (HD.out _).mono ?_); rintro e w' ⟨rfl, rfl⟩)
  refine bodyPost_ret (v := .tuple #[.agg #[.int .u8 0, .int .i64 0, .int .u64 0, .int .u64 0, .bool false], .bool true]) (by simp [results, Try.results16, go_sem]) rfl ⟨rfl, ?_⟩
  repeat (first | exact Below.refl _ _ | refine Below.alloc ?_ (by simp; try omega) _ | refine Below.setCell ?_ (by simp) _)
theorem stepped_mk {o' : OpH} {ws' : List Int} {did : Array Value} {la : Bool} {G : World → Value → ShM → Prop} {T : List Nat} (h1 : stepH m ws o = o') (h2 : stepW m ws o = ws') (h3 : didH m ws o = did) (h4 : o'.en = la) (hG : ∀ w1 nx' s', G w1 nx' s' → NextH bp m o' w1 nx' s' ∧ ∀ q, s'.bv.ownBlock = some q → s.bv.ownBlock = some q ∨ w.heap.size ≤ q) (hT : ∀ q, q ∈ T → s.bv.ownBlock = some q) :
    ∀ e w', StepTo w bp bh bk bw l h d m ws' T did la G e w' → SteppedH w bp bh bk bw l h d m ws o s e w' := by
  rintro e w' ⟨he, nx', s', hr, hg, hh, hP⟩
  unfold SteppedH
  rw [h1, h2, h3, h4]
  exact ⟨T, hT, he, nx', s', hr, hG _ _ _ hg, hh, hP⟩
theorem hstep_op (hp : Row w bp 85 (pendH bh nx s)) (hs : HistM w bh bk bw l h d m ws) (hn : NextH bp m o w nx s) (ho : OkH m o) (hm : 0 < m) (he : o.en = false) : Calls Try.prog 16 #[.pointer (some ⟨bp, 0, none⟩)] w (SteppedH w bp bh bk bw l h d m ws o s) := by
  obtain ⟨k, v, n, i, at_, ld, saw, en, c, su, le, gr, bu⟩ := o
  obtain ⟨sc, ssu, sle, sgr, sbv⟩ := s
  dsimp only at he
  subst he
  obtain ⟨⟨e1, e2, e3, e4⟩, hn⟩ := hn
  dsimp only at e1 e2 e3 e4 hn
  subst e1 e2 e3 e4
  have hlen := hs.len
  have g0 : ws[m]? = some (gw ws m) := gw_get (by omega)
  have g1 : ws[m + 1]? = some (gw ws (m + 1)) := gw_get (by omega)
  have g2 : ws[m + 2]? = some (gw ws (m + 2)) := gw_get (by omega)
  have g3 : ws[m + 3]? = some (gw ws (m + 3)) := gw_get (by omega)
  rcases hn with ⟨hk, hbu, hbv, hn⟩ | ⟨hk, hld, hn⟩
  · try dsimp only at hk hbu hbv
    subst hk hbu hbv
    obtain ⟨hv64, him⟩ := ho rfl
    try dsimp only at hv64 him
    rcases hn with ⟨a, _⟩ | ⟨_, a, b, hn⟩ | ⟨_, a, b, hn⟩ | ⟨_, a, b, hn⟩ | ⟨_, a, b, hn⟩ | ⟨_, a, b, hn⟩ | ⟨_, a, b, hn⟩ | ⟨_, a, b, hn⟩
    · cases a
    · (try dsimp only at a b hn); subst a b
      have gi : ws[i]? = some (gw ws i) := gw_get (by omega)
      exact (hstep_r0 hp hs hn gi).mono (stepped_mk (o' := ⟨1, v, n, i, 1, false, saw, false, sc, ssu, sle, sgr, []⟩) (by simp [stepH]) (by simp [stepW]) (by simp [didH]) rfl (fun w1 nx' s' hx => ⟨⟨by rw [hx.2]; exact ⟨rfl, rfl, rfl, rfl⟩, .inl ⟨rfl, rfl, by rw [hx.2], .inr (.inr (.inl ⟨rfl, rfl, rfl, hx.1⟩))⟩⟩, fun q hq => .inl (by rw [hx.2] at hq; exact hq)⟩) (by simp))
    · (try dsimp only at a b hn); subst a b
      exact (hstep_r1 hp hs hn g0).mono (stepped_mk (o' := ⟨1, v, n, i, 2, false, saw, false, sc, ssu, sle, sgr, []⟩) (by simp [stepH]) (by simp [stepW]) (by simp [didH]) rfl (fun w1 nx' s' hx => ⟨⟨by rw [hx.2]; exact ⟨rfl, rfl, rfl, rfl⟩, .inl ⟨rfl, rfl, by rw [hx.2], .inr (.inr (.inr (.inl ⟨rfl, rfl, rfl, hx.1⟩)))⟩⟩, fun q hq => .inl (by rw [hx.2] at hq; exact hq)⟩) (by simp))
    · (try dsimp only at a b hn); subst a b
      by_cases ht : v < gw ws (m + 1)
      · have hd : decide (v < gw ws (m + 1)) = true := by simpa using ht
        exact (hstep_r2_more hp hs hn g1 hd).mono (stepped_mk (o' := ⟨1, v, n, i, 2, true, (gw ws (m + 1)), false, sc, ssu, sle, sgr, []⟩) (by simp [stepH, ht]) (by simp [stepW]) (by simp [didH, saw_]) rfl (fun w1 nx' s' hx => ⟨⟨by rw [hx.2]; exact ⟨rfl, rfl, rfl, rfl⟩, .inl ⟨rfl, rfl, by rw [hx.2], .inr (.inr (.inr (.inr (.inl ⟨rfl, rfl, rfl, hx.1⟩))))⟩⟩, fun q hq => .inl (by rw [hx.2] at hq; exact hq)⟩) (by simp))
      · have hd : decide (v < gw ws (m + 1)) = false := by simpa using ht
        exact (hstep_r2_over hp hs hn g1 hd).mono (stepped_mk (o' := ⟨1, v, n, i, 3, false, saw, false, sc, ssu, sle, sgr, []⟩) (by simp [stepH, ht]) (by simp [stepW]) (by simp [didH, saw_]) rfl (fun w1 nx' s' hx => ⟨⟨by rw [hx.2]; exact ⟨rfl, rfl, rfl, rfl⟩, .inl ⟨rfl, rfl, by rw [hx.2], .inr (.inr (.inr (.inr (.inr (.inl ⟨rfl, rfl, rfl, hx.1⟩)))))⟩⟩, fun q hq => .inl (by rw [hx.2] at hq; exact hq)⟩) (by simp))
    · (try dsimp only at a b hn); subst a b
      by_cases ht : gw ws (m + 1) = saw
      · subst ht
        exact (hstep_c2_hit hp hs hn g1 hv64).mono (stepped_mk (o' := ⟨1, v, n, i, 3, false, (gw ws (m + 1)), false, sc, ssu, sle, sgr, []⟩) (by simp [stepH]) (by simp [stepW]) (by simp [didH]) rfl (fun w1 nx' s' hx => ⟨⟨by rw [hx.2]; exact ⟨rfl, rfl, rfl, rfl⟩, .inl ⟨rfl, rfl, by rw [hx.2], .inr (.inr (.inr (.inr (.inr (.inl ⟨rfl, rfl, rfl, hx.1⟩)))))⟩⟩, fun q hq => .inl (by rw [hx.2] at hq; exact hq)⟩) (by simp))
      · have hne := ht
        exact (hstep_c2_miss hp hs hn g1 hne).mono (stepped_mk (o' := ⟨1, v, n, i, 2, false, saw, false, sc, ssu, sle, sgr, []⟩) (by simp [stepH, ht]) (by simp [stepW, ht]) (by simp [didH, ht]) rfl (fun w1 nx' s' hx => ⟨⟨by rw [hx.2]; exact ⟨rfl, rfl, rfl, rfl⟩, .inl ⟨rfl, rfl, by rw [hx.2], .inr (.inr (.inr (.inl ⟨rfl, rfl, rfl, hx.1⟩)))⟩⟩, fun q hq => .inl (by rw [hx.2] at hq; exact hq)⟩) (by simp))
    · (try dsimp only at a b hn); subst a b
      by_cases ht : gw ws (m + 2) < v1 v
      · have hd : decide (gw ws (m + 2) < v1 v) = true := by simpa using ht
        exact (hstep_r3_more hp hs hn g2 hd).mono (stepped_mk (o' := ⟨1, v, n, i, 3, true, (gw ws (m + 2)), false, sc, ssu, sle, sgr, []⟩) (by simp [stepH, ht]) (by simp [stepW]) (by simp [didH, saw_]) rfl (fun w1 nx' s' hx => ⟨⟨by rw [hx.2]; exact ⟨rfl, rfl, rfl, rfl⟩, .inl ⟨rfl, rfl, by rw [hx.2], .inr (.inr (.inr (.inr (.inr (.inr (.inl ⟨rfl, rfl, rfl, hx.1⟩))))))⟩⟩, fun q hq => .inl (by rw [hx.2] at hq; exact hq)⟩) (by simp))
      · have hd : decide (gw ws (m + 2) < v1 v) = false := by simpa using ht
        exact (hstep_r3_over hp hs hn g2 hd).mono (stepped_mk (o' := ⟨1, v, n, i, 4, false, saw, false, sc, ssu, sle, sgr, []⟩) (by simp [stepH, ht]) (by simp [stepW]) (by simp [didH, saw_]) rfl (fun w1 nx' s' hx => ⟨⟨by rw [hx.2]; exact ⟨rfl, rfl, rfl, rfl⟩, .inl ⟨rfl, rfl, by rw [hx.2], .inr (.inr (.inr (.inr (.inr (.inr (.inr (⟨rfl, rfl, rfl, hx.1⟩)))))))⟩⟩, fun q hq => .inl (by rw [hx.2] at hq; exact hq)⟩) (by simp))
    · (try dsimp only at a b hn); subst a b
      by_cases ht : gw ws (m + 2) = saw
      · subst ht
        exact (hstep_c3_hit hp hs hn g2 (wrap_u64 _)).mono (stepped_mk (o' := ⟨1, v, n, i, 4, false, (gw ws (m + 2)), false, sc, ssu, sle, sgr, []⟩) (by simp [stepH]) (by simp [stepW, v1]) (by simp [didH, v1]) rfl (fun w1 nx' s' hx => ⟨⟨by rw [hx.2]; exact ⟨rfl, rfl, rfl, rfl⟩, .inl ⟨rfl, rfl, by rw [hx.2], .inr (.inr (.inr (.inr (.inr (.inr (.inr (⟨rfl, rfl, rfl, hx.1⟩)))))))⟩⟩, fun q hq => .inl (by rw [hx.2] at hq; exact hq)⟩) (by simp))
      · have hne := ht
        exact (hstep_c3_miss hp hs hn g2 hne).mono (stepped_mk (o' := ⟨1, v, n, i, 3, false, saw, false, sc, ssu, sle, sgr, []⟩) (by simp [stepH, ht]) (by simp [stepW, ht]) (by simp [didH, ht]) rfl (fun w1 nx' s' hx => ⟨⟨by rw [hx.2]; exact ⟨rfl, rfl, rfl, rfl⟩, .inl ⟨rfl, rfl, by rw [hx.2], .inr (.inr (.inr (.inr (.inr (.inl ⟨rfl, rfl, rfl, hx.1⟩)))))⟩⟩, fun q hq => .inl (by rw [hx.2] at hq; exact hq)⟩) (by simp))
    · (try dsimp only at a b hn); subst a b
      exact (hstep_r4 hp hs hn g3).mono (stepped_mk (o' := ⟨1, v, n, i, 4, false, saw, true, sc, ssu, sle, sgr, []⟩) (by simp [stepH]) (by simp [stepW]) (by simp [didH]) rfl (fun w1 nx' s' hx => ⟨⟨by rw [hx.2]; exact ⟨rfl, rfl, rfl, rfl⟩, .inl ⟨rfl, rfl, by rw [hx.2], .inl ⟨rfl, hx.1⟩⟩⟩, fun q hq => .inl (by rw [hx.2] at hq; exact hq)⟩) (by simp))
  · try dsimp only at hk hld
    subst hk hld
    rcases hn with ⟨_, hbu, hbv, hn⟩ | ⟨bb, hbv, hr, hat, ⟨_, hlt, hn⟩ | ⟨a, _⟩⟩
    · try dsimp only at hbu hbv hn
      subst hbu hbv
      rcases hn with ⟨a, hn⟩ | ⟨a, hn⟩ | ⟨a, hn⟩ | ⟨a, hn⟩
      · (try dsimp only at a); subst a
        exact (hstep_s1 hp hs hn g3).mono (stepped_mk (o' := ⟨2, v, n, i, 1, false, saw, false, (gw ws (m + 3)), ssu, sle, sgr, []⟩) (by simp [stepH]) (by simp [stepW]) (by simp [didH, saw_]) rfl (fun w1 nx' s' hx => ⟨⟨by rw [hx.2]; exact ⟨rfl, rfl, rfl, rfl⟩, .inr ⟨rfl, rfl, .inl ⟨rfl, rfl, by rw [hx.2], .inr (.inl ⟨rfl, hx.1⟩)⟩⟩⟩, fun q hq => .inl (by rw [hx.2] at hq; exact hq)⟩) (by simp))
      · (try dsimp only at a); subst a
        exact (hstep_s2 hp hs hn g1).mono (stepped_mk (o' := ⟨2, v, n, i, 2, false, saw, false, sc, ssu, (wrap64 (gw ws (m + 1))), sgr, []⟩) (by simp [stepH]) (by simp [stepW]) (by simp [didH, saw_]) rfl (fun w1 nx' s' hx => ⟨⟨by rw [hx.2]; exact ⟨rfl, rfl, rfl, rfl⟩, .inr ⟨rfl, rfl, .inl ⟨rfl, rfl, by rw [hx.2], .inr (.inr (.inl ⟨rfl, hx.1⟩))⟩⟩⟩, fun q hq => .inl (by rw [hx.2] at hq; exact hq)⟩) (by simp))
      · (try dsimp only at a); subst a
        exact (hstep_s3 hp hs hn g2).mono (stepped_mk (o' := ⟨2, v, n, i, 3, false, saw, false, sc, ssu, sle, (wrap64 (wrap64 (gw ws (m + 2)) - 1)), []⟩) (by simp [stepH]) (by simp [stepW]) (by simp [didH, saw_]) rfl (fun w1 nx' s' hx => ⟨⟨by rw [hx.2]; exact ⟨rfl, rfl, rfl, rfl⟩, .inr ⟨rfl, rfl, .inl ⟨rfl, rfl, by rw [hx.2], .inr (.inr (.inr (⟨rfl, hx.1⟩)))⟩⟩⟩, fun q hq => .inl (by rw [hx.2] at hq; exact hq)⟩) (by simp))
      · (try dsimp only at a); subst a
        have hpos : 0 < m := hm
        exact (hstep_s4 hp hs hn g0).mono (stepped_mk (o' := ⟨2, v, n, i, 4, false, saw, false, sc, (gw ws m), sle, sgr, []⟩) (by simp [stepH]) (by simp [stepW]) (by simp [didH, saw_]) rfl (fun w1 nx' s' ⟨hx, bb, e, hrb, hlo⟩ => ⟨⟨by rw [e]; exact ⟨rfl, rfl, rfl, rfl⟩, .inr ⟨rfl, rfl, .inr ⟨bb, by rw [e]; first | done | rfl, by simpa using hrb, rfl, .inl ⟨rfl, hpos, hx⟩⟩⟩⟩, fun q hq => .inr (by rw [e] at hq; cases hq; exact hlo)⟩) (by simp))
    · try dsimp only at hbv hr hat hlt hn
      subst hat
      have q0 : ¬ (4 + bu.length = 0) := by omega
      have q1 : ¬ (4 + bu.length = 1) := by omega
      have q2 : ¬ (4 + bu.length = 2) := by omega
      have q3 : ¬ (4 + bu.length = 3) := by omega
      have gb : ws[bu.length]? = some (gw ws bu.length) := gw_get (by omega)
      by_cases hl2 : bu.length + 1 = m
      · have hd : decide (bu.length + 1 = m) = true := by simpa using hl2
        exact (hstep_g_last hp hs hn gb hbv hr hlt hl2).mono (stepped_mk (o' := ⟨2, v, n, i, 4 + bu.length + 1, false, saw, decide (bu.length + 1 = m), sc, ssu, sle, sgr, (bu ++ [gw ws bu.length])⟩) (by simp [stepH, q1, q2, q3]) (by simp [stepW]) (by simp [didH, saw_, q1, q2, q3]) (by simp [hl2]) (fun w1 nx' s' hx => ⟨⟨by rw [hx.2.1]; exact ⟨rfl, rfl, rfl, rfl⟩, .inr ⟨rfl, rfl, .inr ⟨bb, by rw [hx.2.1]; simp, hx.2.2, by simp; omega, .inr ⟨by simp [hl2], by simp [hl2], hx.1⟩⟩⟩⟩, fun q hq => .inl (by rw [hx.2.1] at hq; rw [hbv]; exact hq)⟩) (fun q hq => by rw [List.mem_singleton.1 hq, hbv]; rfl))
      · have hd : decide (bu.length + 1 = m) = false := by simpa using hl2
        exact (hstep_g_more hp hs hn gb hbv hr hlt (by omega)).mono (stepped_mk (o' := ⟨2, v, n, i, 4 + bu.length + 1, false, saw, decide (bu.length + 1 = m), sc, ssu, sle, sgr, (bu ++ [gw ws bu.length])⟩) (by simp [stepH, q1, q2, q3]) (by simp [stepW]) (by simp [didH, saw_, q1, q2, q3]) (by simp [hl2]) (fun w1 nx' s' hx => ⟨⟨by rw [hx.2.1]; exact ⟨rfl, rfl, rfl, rfl⟩, .inr ⟨rfl, rfl, .inr ⟨bb, by rw [hx.2.1]; simp, hx.2.2, by simp; omega, .inl ⟨by simp [hl2], by simp; omega, by simpa using hx.1⟩⟩⟩⟩, fun q hq => .inl (by rw [hx.2.1] at hq; rw [hbv]; exact hq)⟩) (fun q hq => by rw [List.mem_singleton.1 hq, hbv]; rfl))
    · cases a
end
end Go.Proofs.Ytiifhkfkcljoiaa
