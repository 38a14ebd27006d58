/- A SCAN, STEP BY STEP, IN PLAIN WORDS. -/
import Derived.Test.YtdadgppbpomdoaaPn
import Derived.Test.YtdadgppbpomdoaaPo
namespace Go.Proofs.Ytdadgppbpomdoaa
open Go Go.RowKit

/-- a scan under way: c collects are done; the one ahead loaded la, this one lw so far -/
structure ScanS (w : World) (lo bk bp : Nat) (t : Int) (c : Nat) (la lw : List Int) (va vw : Value) : Prop where
  pend : Row w bp 82 (scanL bk t (fnV 32) va vw (c : Int) nilS false 0)
  ahead : w.ownsRow lo 39 1 va la.length (u64s la)
  words : w.ownsRow lo 39 1 vw lw.length (u64s lw)
  apart : va.ownBlock = none ∨ va.ownBlock ≠ vw.ownBlock
/-- a scan that has ended -/
def ScanE (w : World) (lo bk bp : Nat) (t : Int) (c : Nat) (cl : Bool) (xs : List Int) (b : Nat) : Prop :=
  (∃ va vw, Row w bp 82 (scanL bk t .nilFunc va vw (c : Int) (.slice (some ⟨b, 0, none⟩) xs.length xs.length) cl (c : Int))) ∧ Row w b 60 (regCells xs) ∧ lo ≤ b
/-- what an action of a scan leaves -/
def scanDid (k : Nat) (x : Int) (b : Bool) : Value := .tuple #[.agg #[.int .u8 1, .int .i64 (k : Int), .int .u64 x, .int .u64 x, .bool true], .bool b]
theorem ScanS.part {w w' : World} {lo bk bp c : Nat} {t : Int} {la lw : List Int} {va vw : Value} {S : List Nat} (h : ScanS w lo bk bp t c la lw va vw) (hp : Part S w w') (h1 : bp ∉ S) (h2 : ∀ q, va.ownBlock = some q → q ∉ S) (h3 : ∀ q, vw.ownBlock = some q → q ∉ S) : ScanS w' lo bk bp t c la lw va vw :=
  ⟨h.pend.part hp h1, own_part h.ahead hp h2, own_part h.words hp h3, h.apart⟩
theorem ScanE.part {w w' : World} {lo bk bp c b : Nat} {t : Int} {cl : Bool} {xs : List Int} {S : List Nat} (h : ScanE w lo bk bp t c cl xs b) (hp : Part S w w') (h1 : bp ∉ S) (h2 : b ∉ S) : ScanE w' lo bk bp t c cl xs b := by
  obtain ⟨⟨va, vw, hr⟩, hb, hlo⟩ := h
  exact ⟨⟨va, vw, hr.part hp h1⟩, hb.part hp h2, hlo⟩
/-- from behind the append to behind the step -/
theorem lift_blocks {w wz w4 w2 w' : World} {bp : Nat} (h4 : Part [bp] wz w4) (h2 : Part [w.heap.size + 1] w4 w2) (h' : Part [w.heap.size] w2 w') : Part [bp, w.heap.size, w.heap.size + 1] wz w' :=
  ((h4.mono (fun q _ hm => by simp at hm; simp [hm])).then_ (h2.mono (fun q _ hm => by simp at hm; simp [hm]))).then_ (h'.mono (fun q _ hm => by simp at hm; simp [hm]))
section
variable {w wz w' : World} {lo bk bw bp k gd g cap c : Nat} {ws la lw : List Int} {t : Int} {nx va vw : Value} {did : List Value} {o : Obj}
theorem AppP.words' (h : AppP (w.alloc o) lo bk bw bp ws t nx va vw c la lw k did gd g cap wz) (hw : Words w bk bw ws) (hp : Part [bp, w.heap.size, w.heap.size + 1] wz w') : Words w' bk bw ws := by
  have h1 := hw.head.lt
  have h2 := hw.row.lt
  have h3 := h.words.head.ne h.pend (by decide)
  have h4 := h.words.row.ne h.pend (by decide)
  exact h.words.part hp (by simp [h3]; omega) (by simp [h4]; omega)
theorem AppP.total (h : AppP (w.alloc o) lo bk bw bp ws t nx va vw c la lw k did gd g cap wz) (hp : Part [bp, w.heap.size, w.heap.size + 1] wz w') : Part ([bw, bp] ++ vw.ownBlock.toList) w w' := by
  refine Part.trans (S' := [bp, w.heap.size, w.heap.size + 1]) (((Part.refl _ w).alloc o).then_ h.part) hp (fun q hq hm => ?_)
  simp at hm
  rcases hm with hm | hm | hm
  · simp [hm]
  · omega
  · omega
/-- the block of what has been loaded is none of these -/
theorem AppP.g_off (h : AppP (w.alloc o) lo bk bw bp ws t nx va vw c la lw k did gd g cap wz) (hvw : ∀ q, vw.ownBlock = some q → q < w.heap.size) : g ∉ [bp, w.heap.size, w.heap.size + 1] := by
  have h1 : g ≠ bp := own_off h.own h.pend (by decide) g rfl
  have hr := h.res
  have h2 : g ≠ (w.alloc o).heap.size := own_off h.own hr (by decide) g rfl
  rw [World.size_alloc] at h2
  have h3 : g ≠ w.heap.size := by
    rcases h.fresh with e | e
    · have := hvw g e
      omega
    · rw [World.size_alloc] at e
      omega
  simp [h1, h2, h3]
theorem AppP.a_off (h : AppP (w.alloc o) lo bk bw bp ws t nx va vw c la lw k did gd g cap wz) (hva : ∀ q, va.ownBlock = some q → q < w.heap.size) : ∀ q, va.ownBlock = some q → q ∉ [bp, w.heap.size, w.heap.size + 1] := by
  intro q hq
  have h1 : q ≠ bp := own_off h.ahead h.pend (by decide) q hq
  have := hva q hq
  simp [h1]
  omega
end
theorem nodid_kept {w wz w4 w2 : World} {lo bk bw bp k gd g cap c : Nat} {ws la lw : List Int} {t : Int} {nx va vw : Value} {did : List Value} (h : AppP (w.alloc (.cells noDid.toArray 48)) lo bk bw bp ws t nx va vw c la lw k did gd g cap wz) (hbw : bw < w.heap.size) (hbp : bp < w.heap.size) (hvw : ∀ q, vw.ownBlock = some q → q < w.heap.size)
    (h4 : Part [bp] wz w4) (h2 : Part [(w.alloc (.cells noDid.toArray 48)).heap.size] w4 w2) : Row w2 w.heap.size 48 noDid := by
  have hz : Row wz w.heap.size 48 noDid := (Row.new w _ _).part h.part (by
    simp only [List.mem_append, List.mem_cons, List.not_mem_nil, or_false, not_or]
    refine ⟨⟨by omega, by omega⟩, fun hm => ?_⟩
    simp at hm
    have := hvw _ hm
    omega)
  exact (hz.part h4 (by simp; omega)).part h2 (by simp)

theorem ahead_of {w : World} {lo bp ca : Nat} {aa : Option Addr} {la : List Int} {l : List Value} (h : w.ownsRow lo 39 1 (.slice aa la.length ca) la.length (u64s la)) (hp : Row w bp 82 l) : AheadL w bp aa la := fun h0 => by
  obtain ⟨g, c, hv, _, hl⟩ := own_some h h0
  cases hv
  exact ⟨g, rfl, own_lies h, hl, own_off h hp (by decide) g rfl⟩
theorem slice_block (a : Option Addr) (n m c : Nat) : (Value.slice a n c).ownBlock = (Value.slice a m c).ownBlock := by cases a <;> rfl
/-- what is owned, cut to none of it -/
theorem own_none {w : World} {base n size c : Nat} {e : TypeId} {a : Option Addr} {xs : List Value} (h : w.ownsRow base e size (.slice a n c) n xs) : w.ownsRow base e size (.slice a 0 c) 0 [] := by
  refine ⟨by simp, ?_⟩
  rcases h.2 with ⟨hv, _⟩ | ⟨g, cap, cur, hv, hb, hh, hc, hm, hs, _⟩
  · cases hv
    exact .inl ⟨rfl, rfl⟩
  · cases hv
    exact .inr ⟨g, _, cur, rfl, hb, hh, Nat.zero_le _, hm, hs, by simp⟩
set_option maxRecDepth 100000
section
variable {w : World} {lo bk bw bp c : Nat} {ws la lw : List Int} {t x : Int} {va vw : Value}
theorem scan_more (h : Words w bk bw ws) (hn : ws.length ≤ 64) (hS : ScanS w lo bk bp t c la lw va vw) (hx : ws[lw.length]? = some x) (hlo : lo ≤ w.heap.size) (hm : lw.length + 1 < ws.length) :
    Calls Try.prog 14 #[.pointer (some ⟨bp, 0, none⟩)] w fun e w' => e = .returned (scanDid lw.length x false) ∧ Words w' bk bw ws ∧ (∃ vw', ScanS w' lo bk bp t c la (lw ++ [x]) va vw' ∧ (vw'.ownBlock = vw.ownBlock ∨ ∃ g, vw'.ownBlock = some g ∧ w.heap.size ≤ g)) ∧ Part ([bw, bp] ++ vw.ownBlock.toList) w w' := by
  obtain ⟨aa, ca, rfl⟩ := own_form hS.ahead
  obtain ⟨aw, cw, rfl⟩ := own_form hS.words
  have hbp := hS.pend.lt
  have hbw := h.row.lt
  have hvw := own_block hS.words
  have hva := own_block hS.ahead
  have hc := collect_more (h.alloc (.cells noDid.toArray 48)) hn hx rfl (hS.pend.alloc _) (hS.words.alloc _) (hS.ahead.alloc _) hS.apart (by simp; omega) hm
  refine (pstep_collect_false (x0 := 1) (x1 := (lw.length : Int)) (x2 := x) (x3 := x) (x4 := true) (nf := 32) (G := fun w2 => ∃ gd gg gcap wz m, AppP (w.alloc (.cells noDid.toArray 48)) lo bk bw bp ws t (fnV 32) (.slice aa la.length ca) (.slice aw lw.length cw) c la (lw ++ [x]) lw.length [.int .u8 1, .int .i64 (lw.length : Int), .int .u64 x, .int .u64 x, .bool true] gd gg gcap wz ∧ Part [(w.alloc (.cells noDid.toArray 48)).heap.size] (wz.drewN m) w2) hS.pend (hc.mono ?_)).mono ?_
  · rintro e w2 ⟨gd, gg, gcap, wz, w4, rfl, hA, ⟨m, rfl⟩, h4, h2⟩
    exact ⟨rfl, ⟨_, _, _, _, _, _, _, _, _, _, _, _, (Row.part (hA.pend.drewN m) h2 (by simp; omega))⟩, nodid_kept hA hbw hbp hvw h4 h2, gd, gg, gcap, wz, m, hA, h2⟩
  · rintro e w' ⟨w2, rfl, ⟨gd, gg, gcap, wz, m, hA, h2⟩, hE⟩
    have h2' : Part [w.heap.size + 1] (wz.drewN m) w2 := by rwa [World.size_alloc] at h2
    have hL := lift_blocks (bp := bp) ((Part.refl [bp] wz).drewN m) h2' hE
    have hg := hA.g_off hvw
    refine ⟨rfl, hA.words' h hL, ⟨.slice (some ⟨gg, 0, none⟩) (lw.length + 1) gcap, ⟨?_, own_part hA.ahead hL (hA.a_off hva), ?_, ?_⟩, ?_⟩, hA.total hL⟩
    · exact ((hA.pend.drewN m).part h2' (by simp; omega)).part hE (by simp; omega)
    · rw [List.length_append]
      exact own_part hA.own hL (fun q hq => by cases hq; exact hg)
    · exact hA.apart
    · rcases hA.fresh with e | e
      · left; rw [e]; rfl
      · right; exact ⟨gg, rfl, by rw [World.size_alloc] at e; omega⟩
/-- the last action of a collect by which the scan ends -/
theorem scan_end (h : Words w bk bw ws) (hn : ws.length ≤ 64) (hS : ScanS w lo bk bp t c la lw va vw) (hx : ws[lw.length]? = some x) (hlo : lo ≤ w.heap.size) (hm : lw.length + 1 = ws.length) (hu : ∀ y ∈ lw, U64 y) {cl : Bool} (hc : c ≤ 1000000)
    (hcl : decide (lw ++ [x] = la) = cl) (he : cl = false → ((c : Int) + 1 == t) = true) :
    Calls Try.prog 14 #[.pointer (some ⟨bp, 0, none⟩)] w fun e w' => e = .returned (scanDid lw.length x true) ∧ Words w' bk bw ws ∧ (∃ b, ScanE w' lo bk bp t (c + 1) cl (lw ++ [x]) b ∧ w.heap.size ≤ b) ∧ Part ([bw, bp] ++ vw.ownBlock.toList) w w' := by
  obtain ⟨aa, ca, rfl⟩ := own_form hS.ahead
  obtain ⟨aw, cw, rfl⟩ := own_form hS.words
  have hbp := hS.pend.lt
  have hbw := h.row.lt
  have hvw := own_block hS.words
  have hva := own_block hS.ahead
  have hxu := h.u64 hx
  have hn0 : 0 < ws.length := by omega
  have hc' := collect_last (R := fun gg gcap wz w4 => ∃ b, wz.heap.size ≤ b ∧ Row w4 bp 82 (scanL bk t .nilFunc (.slice aa la.length ca) (.slice (some ⟨gg, 0, none⟩) (lw.length + 1) gcap) ((c : Int) + 1) (.slice (some ⟨b, 0, none⟩) (lw.length + 1) (lw.length + 1)) cl ((c : Int) + 1)) ∧ Row w4 b 60 (regCells (lw ++ [x])))
    (h.alloc (.cells noDid.toArray 48)) hn hx rfl (hS.pend.alloc _) (hS.words.alloc _) (hS.ahead.alloc _) hS.apart (by simp; omega) hm (fun gd gg gcap wz hA => by
      refine (collected_end hA.pend (own_lies hA.own) (own_block hA.own gg rfl) (by simp) rfl (ahead_of hA.ahead hA.pend) (by omega) (fun y hy => by
        rw [List.mem_append] at hy
        rcases hy with hy | hy
        · exact hu y hy
        · simp at hy; subst hy; exact hxu) hc (own_off hA.own hA.pend (by decide) gg rfl) hcl he (by omega)).mono ?_
      rintro e w4 ⟨b, rfl, hb, hr, hrb, hP⟩
      exact ⟨rfl, ⟨b, hb, hr, hrb⟩, hP⟩)
  refine (pstep_collect_true (x0 := 1) (x1 := (lw.length : Int)) (x2 := x) (x3 := x) (x4 := true) (G := fun w2 => ∃ gd gg gcap wz w4, AppP (w.alloc (.cells noDid.toArray 48)) lo bk bw bp ws t (fnV 32) (.slice aa la.length ca) (.slice aw lw.length cw) c la (lw ++ [x]) lw.length [.int .u8 1, .int .i64 (lw.length : Int), .int .u64 x, .int .u64 x, .bool true] gd gg gcap wz ∧ (∃ b, wz.heap.size ≤ b ∧ Row w4 bp 82 (scanL bk t .nilFunc (.slice aa la.length ca) (.slice (some ⟨gg, 0, none⟩) (lw.length + 1) gcap) ((c : Int) + 1) (.slice (some ⟨b, 0, none⟩) (lw.length + 1) (lw.length + 1)) cl ((c : Int) + 1)) ∧ Row w4 b 60 (regCells (lw ++ [x]))) ∧ Part [bp] wz w4 ∧ Part [(w.alloc (.cells noDid.toArray 48)).heap.size] w4 w2) hS.pend (hc'.mono ?_)).mono ?_
  · rintro e w2 ⟨gd, gg, gcap, wz, w4, rfl, hA, ⟨b, hb, hr, hrb⟩, h4, h2⟩
    exact ⟨rfl, ⟨_, _, _, _, _, _, _, _, _, _, _, _, (hr.part h2 (by simp; omega))⟩, nodid_kept hA hbw hbp hvw h4 h2, gd, gg, gcap, wz, w4, hA, ⟨b, hb, hr, hrb⟩, h4, h2⟩
  · rintro e w' ⟨w2, rfl, ⟨gd, gg, gcap, wz, w4, hA, ⟨b, hb, hr, hrb⟩, h4, h2⟩, hE⟩
    have h2' : Part [w.heap.size + 1] w4 w2 := by rwa [World.size_alloc] at h2
    have hL := lift_blocks (bp := bp) h4 h2' hE
    have hsz := hA.part.size
    rw [World.size_alloc] at hsz
    have hres := hA.res.lt
    rw [World.size_alloc] at hres
    have hlen : (lw ++ [x]).length = lw.length + 1 := by simp
    refine ⟨rfl, hA.words' h hL, ⟨b, ⟨⟨.slice aa la.length ca, .slice (some ⟨gg, 0, none⟩) (lw.length + 1) gcap, ?_⟩, ?_, ?_⟩, ?_⟩, hA.total hL⟩
    · rw [hlen]
      exact (hr.part h2' (by simp; omega)).part hE (by simp; omega)
    · exact (hrb.part h2' (by simp; omega)).part hE (by simp; omega)
    · omega
    · omega
/-- the last action of a collect behind which another one comes -/
theorem scan_again (h : Words w bk bw ws) (hn : ws.length ≤ 64) (hS : ScanS w lo bk bp t c la lw va vw) (hx : ws[lw.length]? = some x) (hlo : lo ≤ w.heap.size) (hm : lw.length + 1 = ws.length) (hu : ∀ y ∈ lw, U64 y) (hc : c ≤ 1000000)
    (hcl : decide (lw ++ [x] = la) = false) (he : ((c : Int) + 1 == t) = false) (hla : la = [] ∧ va = .slice none 0 0 ∨ la.length = ws.length) :
    Calls Try.prog 14 #[.pointer (some ⟨bp, 0, none⟩)] w fun e w' => e = .returned (scanDid lw.length x false) ∧ Words w' bk bw ws ∧ (∃ va' vw', ScanS w' lo bk bp t (c + 1) (lw ++ [x]) [] va' vw' ∧ (va'.ownBlock = vw.ownBlock ∨ ∃ g, va'.ownBlock = some g ∧ w.heap.size ≤ g) ∧ vw'.ownBlock = va.ownBlock) ∧ Part ([bw, bp] ++ vw.ownBlock.toList) w w' := by
  obtain ⟨aa, ca, rfl⟩ := own_form hS.ahead
  obtain ⟨aw, cw, rfl⟩ := own_form hS.words
  have hbp := hS.pend.lt
  have hbw := h.row.lt
  have hvw := own_block hS.words
  have hva := own_block hS.ahead
  have hn0 : 0 < ws.length := by omega
  have hc' := collect_last (R := fun gg gcap wz w4 => Row w4 bp 82 (scanL bk t (fnV 32) (.slice (some ⟨gg, 0, none⟩) (lw.length + 1) gcap) (.slice aa 0 ca) ((c : Int) + 1) nilS false 0))
    (h.alloc (.cells noDid.toArray 48)) hn hx rfl (hS.pend.alloc _) (hS.words.alloc _) (hS.ahead.alloc _) hS.apart (by simp; omega) hm (fun gd gg gcap wz hA => by
      rcases hla with ⟨rfl, hnil⟩ | hla
      · cases hnil
        exact collected_nil hA.pend (own_lies hA.own) (own_block hA.own gg rfl) (by simp) (by omega) hc (own_off hA.own hA.pend (by decide) gg rfl) he (by omega)
      · have hA2 := hA.ahead
        obtain ⟨ga, c2, hv2, _, hglt⟩ := own_some hA2 (by omega)
        cases hv2
        have hpe := hA.pend
        have e : la.length = lw.length + 1 := by omega
        have hlies := own_lies hA2
        rw [e] at hpe
        have := collected_some hpe (own_lies hA.own) (own_block hA.own gg rfl) (by simp) hlies hglt (own_off hA2 hA.pend (by decide) ga rfl) e (by omega) hc (own_off hA.own hA.pend (by decide) gg rfl) hcl he (by omega)
        exact this)
  refine (pstep_collect_false (x0 := 1) (x1 := (lw.length : Int)) (x2 := x) (x3 := x) (x4 := true) (nf := 32) (G := fun w2 => ∃ gd gg gcap wz w4, AppP (w.alloc (.cells noDid.toArray 48)) lo bk bw bp ws t (fnV 32) (.slice aa la.length ca) (.slice aw lw.length cw) c la (lw ++ [x]) lw.length [.int .u8 1, .int .i64 (lw.length : Int), .int .u64 x, .int .u64 x, .bool true] gd gg gcap wz ∧ Row w4 bp 82 (scanL bk t (fnV 32) (.slice (some ⟨gg, 0, none⟩) (lw.length + 1) gcap) (.slice aa 0 ca) ((c : Int) + 1) nilS false 0) ∧ Part [bp] wz w4 ∧ Part [(w.alloc (.cells noDid.toArray 48)).heap.size] w4 w2) hS.pend (hc'.mono ?_)).mono ?_
  · rintro e w2 ⟨gd, gg, gcap, wz, w4, rfl, hA, hr, h4, h2⟩
    exact ⟨rfl, ⟨_, _, _, _, _, _, _, _, _, _, _, _, (hr.part h2 (by simp; omega))⟩, nodid_kept hA hbw hbp hvw h4 h2, gd, gg, gcap, wz, w4, hA, hr, h4, h2⟩
  · rintro e w' ⟨w2, rfl, ⟨gd, gg, gcap, wz, w4, hA, hr, h4, h2⟩, hE⟩
    have h2' : Part [w.heap.size + 1] w4 w2 := by rwa [World.size_alloc] at h2
    have hL := lift_blocks (bp := bp) h4 h2' hE
    have hg := hA.g_off hvw
    refine ⟨rfl, hA.words' h hL, ⟨.slice (some ⟨gg, 0, none⟩) (lw.length + 1) gcap, .slice aa 0 ca, ⟨?_, ?_, ?_, ?_⟩, ?_, ?_⟩, hA.total hL⟩
    · exact (hr.part h2' (by simp; omega)).part hE (by simp; omega)
    · rw [List.length_append]
      exact own_part hA.own hL (fun q hq => by cases hq; exact hg)
    · exact own_none (own_part hA.ahead hL (hA.a_off hva))
    · rcases hA.apart with e | e
      · right
        intro h'
        rw [slice_block aa 0 la.length ca, e] at h'
        cases h'
      · right
        intro h'
        rw [slice_block aa 0 la.length ca] at h'
        exact e h'.symm
    · rcases hA.fresh with e | e
      · left; rw [e]; rfl
      · right; exact ⟨gg, rfl, by rw [World.size_alloc] at e; omega⟩
    · exact slice_block aa 0 la.length ca
end
end Go.Proofs.Ytdadgppbpomdoaa
