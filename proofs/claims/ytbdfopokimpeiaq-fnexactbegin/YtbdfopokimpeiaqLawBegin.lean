/- Begin of the program answers as the specification's Begin at all memories, threads, lists and results, with memory of its own, and leaves what it was handed as it was: the law FnExactBegin holds, with no condition. -/
import Derived.Test.YtbdfopokimpeiaqRows
import Derived.Test.YtbdfopokimpeiaqLawBegR1
import Derived.Test.YtbdfopokimpeiaqLawBegR2
import Derived.Deep.RegionHeld3
namespace Go.Proofs.Ytbdfopokimpeiaq
open Go.ChangeShapes Go.WideShapes Go.ChangeAt Go.RowKit Go.Joins

namespace fnExactBegin
theorem own : ownKnob Try.prog.godebug = none := by kernel_rfl
theorem laidOut : laidOutB Try.prog = true := by kernel_rfl
structure LC (w4 : World) (Ws b16 b17 : Nat) (G : Nat → Value) (m : Nat) (fs : List Int) (n : Nat) (ds : List DK) (hT hS : Int) (y : World) : Prop where
  bel : Below w4.heap.size w4 y
  g0 : MemO y Ws G m fs n ds
  q16 : Box y b16 #[G 0, G 1] 46
  q17 : Box y b17 #[.int .i64 hT, .int .i64 hS, .int .i64 0, .int .i64 0] 52
theorem LC.on {w4 : World} {Ws b16 b17 : Nat} {G : Nat → Value} {m : Nat} {fs : List Int} {n : Nat} {ds : List DK} {hT hS : Int} {y y' : World} (h : LC w4 Ws b16 b17 G m fs n ds hT hS y) (hb : Below y.heap.size y y') : LC w4 Ws b16 b17 G m fs n ds hT hS y' :=
  ⟨h.bel.trans (hb.mono h.bel.size), h.g0.below hb (Nat.le_refl _), h.q16.below hb h.q16.lt, h.q17.below hb h.q17.lt⟩
theorem LC.far {w4 : World} {Ws b16 b17 : Nat} {G : Nat → Value} {m : Nat} {fs : List Int} {n : Nat} {ds : List DK} {hT hS : Int} {y y' : World} (h : LC w4 Ws b16 b17 G m fs n ds hT hS y) (hb : Below w4.heap.size y y') (hs : Ws ≤ b16 ∧ Ws ≤ b17) (he : ∀ b, b < y.heap.size → Ws ≤ b → y'.heap[b]? = y.heap[b]?) : LC w4 Ws b16 b17 G m fs n ds hT hS y' :=
  ⟨h.bel.trans hb, h.g0.heap fun a ha k hk => he k (h.g0.blk a ha k hk).2 (h.g0.blk a ha k hk).1, (he b16 h.q16.lt hs.1).trans h.q16, (he b17 h.q17.lt hs.2).trans h.q17⟩
theorem eqMemV (F : Nat → Value) (ga ha wa da : Option Addr) (gc hc wc dc m n : Nat) (fs : List Int) (ds : List DK) (base : Nat) (w : World) (h0 : F 0 = .slice ga m gc) (h1 : F 1 = .slice ha n hc) (hm : m ≤ 1048576) (hn : n ≤ 1048576) (hs : Small n ds) (h : MemO w base F m fs n ds) (t1 : TripAt w wa m fs) (d1 : DescAt w da n ds) :
    Calls Try.prog 27 #[MemV ga m gc ha n hc, MemV wa m wc da n dc] w fun e w' => e = .returned (.bool true) ∧ Below w.heap.size w w' := by
  obtain ⟨ga', gc', ha', hc', _, e0, e1, t, d, _⟩ := h.open hm hn hs
  rw [h0] at e0
  rw [h1] at e1
  cases e0
  cases e1
  exact eqMem_same ga wa ha da m n gc wc hc dc fs ds w t t1 d d1
theorem heldMemV (F : Nat → Value) (ga ha : Option Addr) (gc hc m n : Nat) (ds : List DK) (base : Nat) (w : World) (h0 : F 0 = .slice ga m gc) (h1 : F 1 = .slice ha n hc) (hm : m ≤ 1048576) (hn : n ≤ 1048576) (hs : Small n ds) (h : MemO w base F m (asc 1 (m * 3)) n (markDs (1 + (m : Int) * 3) ds n)) :
    Calls Try.prog 33 #[MemV ga m gc ha n hc, .int .i64 1] w fun e w' => e = .returned (.int .i64 (1 + (m : Int) * 3 + (offN ds n : Int))) ∧ Below w.heap.size w w' := by
  obtain ⟨ga', gc', ha', hc', _, e0, e1, t, d, _⟩ := h.open hm hn (markDs_small hs)
  rw [h0] at e0
  rw [h1] at e1
  cases e0
  cases e1
  exact heldMem_o ga m gc ha n hc ds 1 w (by omega) (by omega) hs t d
theorem markMemV (F : Nat → Value) (ga ha : Option Addr) (gc hc m n : Nat) (fs : List Int) (ds : List DK) (base : Nat) (w : World) (h0 : F 0 = .slice ga m gc) (h1 : F 1 = .slice ha n hc) (hm : m ≤ 1048576) (hn : n ≤ 1048576) (hs : Small n ds) (h : MemO w base F m fs n ds) :
    Calls Try.prog 32 #[MemV ga m gc ha n hc, .int .i64 1] w fun e w' => e = .returned (.int .i64 (1 + (m : Int) * 3 + (offN ds n : Int))) ∧ MemO w' base F m (asc 1 (m * 3)) n (markDs (1 + (m : Int) * 3) ds n) ∧ Below (min base w.heap.size) w w' ∧ ∀ b, b < w.heap.size → (∀ a, a < 2 + 2 * n → (F a).ownBlock ≠ some b) → w'.heap[b]? = w.heap[b]? := by
  have e : MemV ga m gc ha n hc = MemF F := by rw [MemF, h0, h1]
  rw [e]
  exact markMem_o base F m fs n ds 1 w hm hn (by omega) (by omega) hs h
set_option maxHeartbeats 16000000 in
set_option maxRecDepth 100000 in
theorem walk (wa : Option Addr) (m wc : Nat) (fs : List Int) (da : Option Addr) (n dc : Nat) (ds : List DK) (t : Int) (la : Option Addr) (en lc : Nat) (es : List Int) (cd : Int) (ra : Option Addr) (rn rc : Nat) (rs : List Int) (w : World) (hm : m ≤ 9223372036854775807) (hn : n ≤ 9223372036854775807) (he : en ≤ 9223372036854775807) (hr : rn ≤ 9223372036854775807) (hA : m ≤ 1048576 → TripAt w wa m fs) (hD : n ≤ 1048576 → DescPre w da n ds) (hE : en ≤ 1048576 → TripAt w la en es) (hR : rn ≤ 1099511627776 → IntAt w ra rn rs) :
    Calls Try.prog 7 #[MemV wa m wc da n dc, .int .i64 t, .slice la en lc, ResV cd ra rn rc] w fun e w' => e = .returned (.bool true) ∧ Below w.heap.size w w' := by
  obtain ⟨W, hW⟩ : ∃ W, ((w.alloc (.cells #[.slice wa m wc, .slice da n dc] 42)).alloc (.cells #[.int .i64 cd, .slice ra rn rc] 61)) = W := ⟨_, rfl⟩
  have hb0 : Below w.heap.size w W := by rw [← hW]; exact ((Below.refl _ w).alloc (Nat.le_refl _) _).alloc (by simp) _
  have hsz : W.heap.size = w.heap.size + 2 := by rw [← hW]; simp
  have HSZ : Hid (W.heap.size = w.heap.size + 2) := hsz
  have HB0 : Hid (Below w.heap.size w W) := hb0
  have X4 : Hid (Box W w.heap.size #[.slice wa m wc, .slice da n dc] 42) := by rw [← hW]; exact (box_of w _ _).alloc _
  have X7 : Hid (Box W (w.heap.size + 1) #[.int .i64 cd, .slice ra rn rc] 61) := by
    have := box_of (w.alloc (.cells #[.slice wa m wc, .slice da n dc] 42)) #[.int .i64 cd, .slice ra rn rc] 61
    rw [hW] at this
    show Box _ _ _ _
    simpa using this
  have HA : Hid (m ≤ 1048576 → TripAt W wa m fs) := fun h => (hA h).below hb0 (Nat.le_refl _)
  have HD : Hid (n ≤ 1048576 → DescPre W da n ds) := fun h => (hD h).below hb0 (Nat.le_refl _)
  have HE : Hid (en ≤ 1048576 → TripAt W la en es) := fun h => (hE h).below hb0 (Nat.le_refl _)
  have HR : Hid (rn ≤ 1099511627776 → IntAt W ra rn rs) := fun h => (hR h).below hb0 (Nat.le_refl _)
  have HW : Hid (((w.alloc (.cells #[.slice wa m wc, .slice da n dc] 42)).alloc (.cells #[.int .i64 cd, .slice ra rn rc] 61)) = W) := hW
  clear hA hD hE hR hW hb0 hsz
  go_enter Try.func7, Try.ntmps7
  go_wp2_with fail
  rw [HW.out]
  refine (szMem_any wa m wc fs da n dc ds 1048576 _ hm hn HA.out HD.out (by omega) (by omega)).mono ?_
  rintro e w1 ⟨hb1, rfl | ⟨r, rfl, hr0, hr1, hT, hAt, hsm⟩⟩
  · have hall : Below w.heap.size w w1 := HB0.out.trans (hb1.mono HB0.out.size)
    clear hb1
    go_wp2
    go_ret
    exact ⟨rfl, hall⟩
  have hr2 : ¬ r < 0 := by omega
  have HB1 : Hid (Below W.heap.size W w1) := hb1
  have HTW : Hid (TripAt W wa m fs ∧ DescAt W da n ds) := ⟨hT, hAt⟩
  have SM : Hid (Small n ds) := hsm
  have hm1 : m ≤ 1048576 := hT.2.1
  have hn1 : n ≤ 1048576 := hAt.2.1
  have HL : Hid (ds.length = n) := hAt.1
  clear hb1 hT hAt hsm HA HD
  by_cases hen : (en : Int) ≤ r
  case neg =>
    go_wp2_with fail
    refine (szEntryS_big la en lc r _ hr0 hr1 (by omega) he).mono ?_
    rintro e w2 ⟨rfl, rfl⟩
    have hall : Below w.heap.size w w2 := HB0.out.trans (HB1.out.mono HB0.out.size)
    go_wp2
    go_ret
    exact ⟨rfl, hall⟩
  have hen1 : en ≤ 1048576 := by omega
  have HE1 : Hid (TripAt W la en es) := HE.out hen1
  go_wp2_with fail
  refine (szEntryS_fits la en lc r _ hr0 hr1 hen).mono ?_
  rintro e w2 ⟨rfl, hw2⟩
  have HB2 : Hid (Below W.heap.size W w2) := by rw [hw2]; exact HB1.out
  obtain ⟨r', hr'⟩ : ∃ r' : Int, r - (en : Int) = r' := ⟨_, rfl⟩
  have hr3 : 0 ≤ r' := by omega
  have hr4 : r' ≤ 1048576 := by omega
  have hr5 : ¬ r' < 0 := by omega
  rw [hr']
  obtain ⟨c0, c1, _, _⟩ := (X7.out.below HB2.out X7.out.lt).two
  clear hw2 hr' HE
  by_cases hrn : (rn : Int) ≤ r'
  case neg =>
    go_wp2_with fail
    refine (szRes_big ra rn rc cd r' _ hr3 hr4 (by omega) hr).mono ?_
    rintro e w3 ⟨rfl, hb3⟩
    have hall : Below w.heap.size w w3 := HB0.out.trans ((HB2.out.trans (hb3.mono HB2.out.size)).mono HB0.out.size)
    clear hb3
    go_wp2
    go_ret
    exact ⟨rfl, hall⟩
  have hrn1 : rn ≤ 1048576 := by omega
  have HR1 : Hid (IntAt W ra rn rs) := HR.out (by omega)
  go_wp2_with fail
  refine (szRes_fits ra rn rc cd r' _ hr3 hr4 hrn).mono ?_
  rintro e w3 ⟨rfl, hb3⟩
  have HB3 : Hid (Below W.heap.size W w3) := HB2.out.trans (hb3.mono HB2.out.size)
  obtain ⟨r6, hr6⟩ : ∃ r6 : Int, r' - (rn : Int) = r6 := ⟨_, rfl⟩
  have hr7 : ¬ r6 < 0 := by omega
  rw [hr6]
  have CELw3 : Hid (∀ w', Below w3.heap.size w3 w' → (w'.cell? ⟨w.heap.size, 0, none⟩ = some (.slice wa m wc) ∧ w'.cell? ⟨w.heap.size, 1, none⟩ = some (.slice da n dc)) ∧ w'.cell? ⟨w.heap.size + 1, 0, none⟩ = some (.int .i64 cd) ∧ w'.cell? ⟨w.heap.size + 1, 1, none⟩ = some (.slice ra rn rc)) := fun w' hb => by
    have hb' : Below W.heap.size W w' := HB3.out.trans (hb.mono HB3.out.size)
    exact ⟨⟨(X4.out.below hb' X4.out.lt).two.1, (X4.out.below hb' X4.out.lt).two.2.1⟩, (X7.out.below hb' X7.out.lt).two.1, (X7.out.below hb' X7.out.lt).two.2.1⟩
  have INSw3 : Hid (TripAt w3 wa m fs ∧ DescAt w3 da n ds ∧ TripAt w3 la en es ∧ IntAt w3 ra rn rs) := ⟨HTW.out.1.below HB3.out (Nat.le_refl _), HTW.out.2.below HB3.out (Nat.le_refl _), HE1.out.below HB3.out (Nat.le_refl _), HR1.out.below HB3.out (Nat.le_refl _)⟩
  clear hb3 hr6 c0 c1 HR
  go_wp2_with fail
  refine Code.wp_mono (Q := Exit.then (fun a' w' => ∃ (b1 b2 g1 h1 g2 g3 : Nat) (pa : Option Addr) (pc : Nat) (pd : Option Addr) (pdc : Nat) (F : Nat → Value) (ds' : List DK) (hT hS : Int) (ok : Bool), a' = ⟨List.toArray (MemV wa m wc da n dc :: .int .i64 t :: .slice la en lc :: ResV cd ra rn rc :: .pointer (some ⟨w.heap.size, 0, none⟩) :: undef :: undef :: .pointer (some ⟨w.heap.size + 1, 0, none⟩) :: .bool false :: .int .i64 r6 :: .pointer (some ⟨b1, 0, none⟩) :: .pointer (some ⟨b2, 0, none⟩) :: .bool ok :: undef :: undef :: undef :: undef :: undef :: undef :: undef :: undef :: undef :: undef :: undef :: undef :: .agg #[.slice wa m wc, .slice da n dc] :: .int .i64 1048576 :: .int .i64 r :: .int .i64 r :: .bool (decide (r < 0)) :: .slice la en lc :: .int .i64 r :: .int .i64 r' :: .int .i64 r' :: .bool (decide (r' < 0)) :: .agg #[.int .i64 cd, .slice ra rn rc] :: .int .i64 r' :: .int .i64 r6 :: .int .i64 r6 :: .bool (decide (r6 < 0)) :: .tuple #[MemV pa m pc pd n pdc, HelpV hT hS 0 0, .bool ok] :: .agg #[.slice wa m wc, .slice da n dc] :: MemV (some ⟨g1, 0, none⟩) m m (some ⟨h1, 0, none⟩) n n :: .int .i64 t :: .slice la en lc :: .slice (some ⟨g2, 0, none⟩) en en :: .agg #[.int .i64 cd, .slice ra rn rc] :: ResV cd (some ⟨g3, 0, none⟩) rn rn :: .tuple #[MemV pa m pc pd n pdc, HelpV hT hS 0 0, .bool ok] :: MemV pa m pc pd n pdc :: HelpV hT hS 0 0 :: .bool ok :: undef :: undef :: undef :: undef :: undef :: undef :: undef :: undef :: undef :: undef :: undef :: undef :: undef :: undef :: undef :: undef :: undef :: undef :: undef :: undef :: undef :: undef :: undef :: undef :: undef :: undef :: undef :: undef :: undef :: undef :: undef :: undef :: undef :: undef :: undef :: undef :: undef :: undef :: undef :: undef :: undef :: undef :: undef :: undef :: undef :: undef :: undef :: undef :: undef :: undef :: undef :: undef :: undef :: undef :: undef :: undef :: undef :: undef :: undef :: undef :: undef :: undef :: undef :: undef :: undef :: undef :: undef :: undef :: undef :: undef :: undef :: undef :: undef :: undef :: undef :: undef :: undef :: undef :: undef :: undef :: undef :: undef :: undef :: undef :: undef :: undef :: undef :: undef :: undef :: undef :: undef :: undef :: undef :: undef :: undef :: undef :: undef :: undef :: undef :: undef :: undef :: undef :: undef :: undef :: undef :: undef :: undef :: undef :: undef :: undef :: undef :: undef :: undef :: undef :: undef :: undef :: undef :: undef :: undef :: []), []⟩ ∧ (F 0 = .slice pa m pc ∧ F 1 = .slice pd n pdc) ∧ BeginSays fs m ds t en es cd rn rs ds' hT hS ok ∧ BegAns w3 b1 b2 F m fs n ds' hT hS w') (fun _ _ _ => False)) ?rest ?reg
  case reg => exact reg11_wp wa m wc fs da n dc ds t la en lc es cd ra rn rc rs r r' r6 w w3 CELw3.out INSw3.out SM.out HL.out hm1 hn1 hen1 hrn1
  case rest =>
    intro ex a' w4 h
    cases ex
    case normal =>
      obtain ⟨b10, b11, g1, h1, g2, g3, pa, pc, pd, pdc, F, ds', hT, hS, ok, rfl, hF, says, ans⟩ := h
      have SAYS : Hid (BeginSays fs m ds t en es cd rn rs ds' hT hS ok) := says
      obtain ⟨sm', hl'⟩ := says.small HL.out SM.out hen1 hrn1
      have SM' : Hid (Small n ds' ∧ ds'.length = n) := ⟨sm', hl'⟩
      obtain ⟨qa, qc, qd, qdc, _, e0, e1, t4, d4, _⟩ := ans.own.open hm1 hn1 sm'
      rw [hF.1] at e0
      rw [hF.2] at e1
      cases e0
      cases e1
      have T4 : Hid (TripAt w4 pa m fs ∧ DescAt w4 pd n ds') := ⟨t4, d4⟩
      have X10 : Hid (Box w4 b10 #[.slice pa m pc, .slice pd n pdc] 46) := by
        have := ans.mem
        rw [hF.1, hF.2] at this
        exact this
      have X11 : Hid (Box w4 b11 #[.int .i64 hT, .int .i64 hS, .int .i64 0, .int .i64 0] 52) := ans.help
      have HB34 : Hid (Below w3.heap.size w3 w4) := ans.bel
      have CEL4 : Hid (∀ w', Below w4.heap.size w4 w' → (w'.cell? ⟨w.heap.size, 0, none⟩ = some (.slice wa m wc) ∧ w'.cell? ⟨w.heap.size, 1, none⟩ = some (.slice da n dc)) ∧ w'.cell? ⟨w.heap.size + 1, 0, none⟩ = some (.int .i64 cd) ∧ w'.cell? ⟨w.heap.size + 1, 1, none⟩ = some (.slice ra rn rc)) := fun w' hb => CELw3.out w' (HB34.out.trans (hb.mono HB34.out.size))
      have INS4 : Hid (TripAt w4 wa m fs ∧ DescAt w4 da n ds ∧ TripAt w4 la en es ∧ IntAt w4 ra rn rs) := ⟨INSw3.out.1.below HB34.out (Nat.le_refl _), INSw3.out.2.1.below HB34.out (Nat.le_refl _), INSw3.out.2.2.1.below HB34.out (Nat.le_refl _), INSw3.out.2.2.2.below HB34.out (Nat.le_refl _)⟩
      have HBW4 : Hid (Below w.heap.size w w4) := HB0.out.trans ((HB3.out.trans (HB34.out.mono HB3.out.size)).mono HB0.out.size)
      have lw4 : w.heap.size + 1 < w4.heap.size := by have h1 := HSZ.out; have h2 := HB3.out.size; have h3 := HB34.out.size; omega
      have l10 := X10.out.lt
      have l11 := X11.out.lt
      clear says sm' hl' t4 d4 hF ans CELw3 INSw3 HTW HE1 HR1 X4 X7 HB1 HB2 HW
      obtain ⟨⟨c0, c1⟩, c2, c3⟩ := CEL4.out w4 (Below.refl _ _)
      go_wp2_with fail
      refine (toMem_any wa m wc fs da n dc ds _ INS4.out.1 INS4.out.2.1).mono ?_
      rintro e w5 ⟨g5, h5, rfl, hg5, hh5, o5, p5, hb5⟩
      obtain ⟨XF, hXF, hX0, hX1, mo5⟩ := memO_of HL.out hg5 hh5 o5 p5
      have MI5 : Hid (MemIn w5 g5 h5 m n fs ds) := memIn_of o5 p5 HL.out hm1 hn1 SM.out
      have MO5 : Hid (MemO w5 w4.heap.size XF m fs n ds) := mo5
      have HXV : Hid (XF 0 = .slice (some ⟨g5, 0, none⟩) m m ∧ XF 1 = .slice (some ⟨h5, 0, none⟩) n n) := ⟨hX0, hX1⟩
      have HXF : Hid (MemF XF = MemV (some ⟨g5, 0, none⟩) m m (some ⟨h5, 0, none⟩) n n) := hXF
      have XBL : Hid (∀ a, a < 2 + 2 * n → ∀ b, (XF a).ownBlock = some b → w4.heap.size ≤ b ∧ b < w5.heap.size) := mo5.blk
      have HB45 : Hid (Below w4.heap.size w4 w5) := hb5
      obtain ⟨W5, hW5⟩ : ∃ y, w5.alloc (.cells #[SL g5 m, SL h5 n] 46) = y := ⟨_, rfl⟩
      have hx5 : Below w5.heap.size w5 W5 := by rw [← hW5]; exact (Below.refl _ _).alloc (Nat.le_refl _) _
      have s5 : w5.heap.size < W5.heap.size := by rw [← hW5]; simp
      have HX5 : Hid (Below w5.heap.size w5 W5) := hx5
      have HW5 : Hid (w5.alloc (.cells #[SL g5 m, SL h5 n] 46) = W5) := hW5
      have X13 : Hid (Box W5 w5.heap.size #[SL g5 m, SL h5 n] 46) := by rw [← hW5]; exact box_of w5 _ _
      have HB4W5 : Hid (Below w4.heap.size w4 W5) := hb5.trans (hx5.mono hb5.size)
      clear o5 p5 hb5 hx5 hW5 mo5 hXF hX0 hX1 hg5 hh5 c0 c1 c2 c3
      go_wp2_with fail
      rw [HW5.out]
      refine (toEntryS_any la en lc es _ (INS4.out.2.2.1.below HB4W5.out (Nat.le_refl _))).mono ?_
      rintro e w6 ⟨rfl, o6, hb6⟩
      have HB56 : Hid (Below W5.heap.size W5 w6) := hb6
      have O6 : Hid (w6.ownsRow W5.heap.size 84 3 (SL W5.heap.size en) en (es.map I)) := o6
      have s6 := (o6.lt _ rfl).2
      have HB46 : Hid (Below w4.heap.size w4 w6) := HB4W5.out.trans (hb6.mono HB4W5.out.size)
      clear o6 hb6
      obtain ⟨⟨c0, c1⟩, c2, c3⟩ := CEL4.out w6 HB46.out
      go_wp2_with fail
      refine (toRes_g ra rn rc cd rs _ (INS4.out.2.2.2.below HB46.out (Nat.le_refl _))).mono ?_
      rintro e w7 ⟨g7, rfl, hg7, o7, hb7⟩
      have HB67 : Hid (Below w6.heap.size w6 w7) := hb7
      have O7 : Hid (w7.ownsRow w6.heap.size 3 1 (SL g7 rn) rn (rs.map I)) := own_weaken o7 hg7
      have s7 := (o7.lt _ rfl).2
      obtain ⟨W7, hW7⟩ : ∃ y, w7.alloc (.cells #[.int .i64 cd, SL g7 rn] 68) = y := ⟨_, rfl⟩
      have hx7 : Below w7.heap.size w7 W7 := by rw [← hW7]; exact (Below.refl _ _).alloc (Nat.le_refl _) _
      have s7' : w7.heap.size < W7.heap.size := by rw [← hW7]; simp
      have HX7 : Hid (Below w7.heap.size w7 W7) := hx7
      have HW7 : Hid (w7.alloc (.cells #[.int .i64 cd, SL g7 rn] 68) = W7) := hW7
      have X15 : Hid (Box W7 w7.heap.size #[.int .i64 cd, SL g7 rn] 68) := by rw [← hW7]; exact box_of w7 _ _
      have HB5W7 : Hid (Below W5.heap.size W5 W7) := (HB56.out.trans (hb7.mono HB56.out.size)).trans (hx7.mono (by have h1 := HB56.out.size; have h2 := hb7.size; omega))
      have HB4W7 : Hid (Below w4.heap.size w4 W7) := HB4W5.out.trans (HB5W7.out.mono HB4W5.out.size)
      have X137 : Hid (Box W7 w5.heap.size #[SL g5 m, SL h5 n] 46) := X13.out.below HB5W7.out X13.out.lt
      have MI7 : Hid (MemIn W7 g5 h5 m n fs ds) := (MI5.out.below HX5.out (Nat.le_refl _)).below HB5W7.out (Nat.le_refl _)
      have O67 : Hid (W7.ownsRow W5.heap.size 84 3 (SL W5.heap.size en) en (es.map I)) := owns_below (owns_below O6.out HB67.out (Nat.le_refl _)) HX7.out (Nat.le_refl _)
      have O77 : Hid (W7.ownsRow w6.heap.size 3 1 (SL g7 rn) rn (rs.map I)) := owns_below O7.out HX7.out (Nat.le_refl _)
      have MO7 : Hid (MemO W7 w4.heap.size XF m fs n ds) := (MO5.out.below HX5.out (Nat.le_refl _)).below HB5W7.out (Nat.le_refl _)
      have b7 := (X13.out.below (HB56.out.trans (HB67.out.mono HB56.out.size)) X13.out.lt)
      obtain ⟨d0, d1, _, _⟩ := b7.two
      have l7 := b7.lt
      clear o7 hb7 hx7 hW7 c0 c1 c2 c3 b7
      go_wp2_with fail
      rw [HW7.out]
      refine (implBegin_any (some ⟨g5, 0, none⟩) m m fs (some ⟨h5, 0, none⟩) n n ds t (some ⟨W5.heap.size, 0, none⟩) en en es cd (some ⟨g7, 0, none⟩) rn rn rs _ MI7.out.1 MI7.out.2.1 MI7.out.2.2.2.1 MI7.out.2.2.2.2 (fun e => by cases e) (fun e => by cases e) SM.out (own_tripAt O67.out hen1) (own_intAt O77.out (by omega)) (fun e => by cases e) (fun e => by cases e) hrn1).mono ?_
      rintro e w8 ⟨⟨G, ds2, hT2, hS2, ok2, rfl, says2, mo8⟩, hb8⟩
      obtain ⟨rfl, rfl, rfl, rfl⟩ := beginSays_one SAYS.out says2
      have GB : Hid (∀ a, a < 2 + 2 * n → ∀ b, (G a).ownBlock = some b → W7.heap.size ≤ b ∧ b < w8.heap.size) := mo8.blk
      obtain ⟨ga, gc, e0, _⟩ := owns_slice mo8.words
      obtain ⟨gvs, gd, _⟩ := mo8.descO.descs
      obtain ⟨ha, hc, e1, _⟩ := owns_slice gd
      have HG : Hid (G 0 = .slice ga m gc ∧ G 1 = .slice ha n hc) := ⟨e0, e1⟩
      rw [show MemF G = MemV ga m gc ha n hc by rw [MemF, e0, e1]]
      obtain ⟨y8, hy8⟩ : ∃ y, ((w8.alloc (.cells #[.slice ga m gc, .slice ha n hc] 46)).alloc (.cells #[.int .i64 hT2, .int .i64 hS2, .int .i64 0, .int .i64 0] 52)) = y := ⟨_, rfl⟩
      have hx8 : Below w8.heap.size w8 y8 := by rw [← hy8]; exact ((Below.refl _ _).alloc (Nat.le_refl _) _).alloc (by simp) _
      have s8 : y8.heap.size = w8.heap.size + 2 := by rw [← hy8]; simp
      have S8 : Hid (y8.heap.size = w8.heap.size + 2) := s8
      have HY8 : Hid (((w8.alloc (.cells #[.slice ga m gc, .slice ha n hc] 46)).alloc (.cells #[.int .i64 hT2, .int .i64 hS2, .int .i64 0, .int .i64 0] 52)) = y8) := hy8
      have hb78 : Below W7.heap.size W7 y8 := hb8.trans (hx8.mono hb8.size)
      have HB78 : Hid (Below W7.heap.size W7 y8) := hb78
      have C8 : Hid (LC w4 W7.heap.size w8.heap.size (w8.heap.size + 1) G m fs n ds2 hT2 hS2 y8) := by
        refine ⟨HB4W7.out.trans (hb78.mono HB4W7.out.size), mo8.below hx8 (Nat.le_refl _), ?_, ?_⟩
        · rw [e0, e1, ← hy8]
          exact (box_of w8 _ _).alloc _
        · have := box_of (w8.alloc (.cells #[.slice ga m gc, .slice ha n hc] 46)) #[.int .i64 hT2, .int .i64 hS2, .int .i64 0, .int .i64 0] 52
          rw [hy8] at this
          simpa using this
      have hw78 : W7.heap.size ≤ w8.heap.size := hb8.size
      have hBB : Below w4.heap.size w4 w8 := HB4W7.out.trans (hb8.mono HB4W7.out.size)
      obtain ⟨a0, a1, _, _⟩ := (X10.out.below hBB l10).two
      obtain ⟨⟨a2, a3, a4, a5⟩, _⟩ := (X11.out.below hBB l11).four
      have m10 : b10 < w8.heap.size := World.block_lt_of_cell? w8 _ a0
      have m11 : b11 < w8.heap.size := World.block_lt_of_cell? w8 _ a2
      have X13y : Hid (Box y8 w5.heap.size #[SL g5 m, SL h5 n] 46) := X137.out.below hb78 X137.out.lt
      have X15y : Hid (Box y8 w7.heap.size #[.int .i64 cd, SL g7 rn] 68) := X15.out.below hb78 X15.out.lt
      have O2y : Hid (y8.ownsRow W5.heap.size 84 3 (SL W5.heap.size en) en (es.map I)) := owns_below O67.out hb78 (Nat.le_refl _)
      have O3y : Hid (y8.ownsRow w6.heap.size 3 1 (SL g7 rn) rn (rs.map I)) := owns_below O77.out hb78 (Nat.le_refl _)
      have MOy : Hid (MemO y8 w4.heap.size XF m fs n ds) := MO7.out.below hb78 (Nat.le_refl _)
      have hg76 : w6.heap.size ≤ g7 := (O7.out.lt g7 rfl).1
      have hw56 := HB56.out.size
      have hw67 := HB67.out.size
      have hw45 := HB45.out.size
      clear mo8 gd e0 e1 says2 hb8 hx8 hy8 hb78 s8 hBB d0 d1 l7 MI5 MI7 O6 O7 O67 O77 MO5 MO7 X13 X137 X15 HW5 HW7 HX5 HX7
      go_wp2_with fail
      rw [HY8.out]
      refine (eqMemV G ga ha pa pd gc hc pc pdc m n fs ds2 _ _ HG.out.1 HG.out.2 hm1 hn1 SM'.out.1 C8.out.g0 (T4.out.1.below C8.out.bel (Nat.le_refl _)) (T4.out.2.below C8.out.bel (Nat.le_refl _))).mono ?_
      rintro e y9 ⟨rfl, hb9⟩
      have C9 : Hid (LC w4 W7.heap.size w8.heap.size (w8.heap.size + 1) G m fs n ds2 hT2 hS2 y9) := C8.out.on hb9
      have HB89 : Hid (Below y8.heap.size y8 y9) := hb9
      clear hb9 a0 a1 a2 a3 a4 a5
      obtain ⟨⟨a2, a3, a4, a5⟩, _⟩ := (X11.out.below C9.out.bel l11).four
      obtain ⟨⟨k2, k3, k4, k5⟩, _⟩ := C9.out.q17.four
      go_wp2_with fail
      refine (eqHelp_same hT2 hS2 0 0 _).mono ?_
      rintro e y10 ⟨rfl, hb10⟩
      have C10 : Hid (LC w4 W7.heap.size w8.heap.size (w8.heap.size + 1) G m fs n ds2 hT2 hS2 y10) := C9.out.on hb10
      have HB8A : Hid (Below y8.heap.size y8 y10) := HB89.out.trans (hb10.mono HB89.out.size)
      clear hb10 a2 a3 a4 a5 k2 k3 k4 k5 C9 HB89
      obtain ⟨⟨c0, c1⟩, c2, c3⟩ := CEL4.out y10 C10.out.bel
      have XA := X13y.out.below HB8A.out X13y.out.lt
      obtain ⟨x0, x1, _, _⟩ := XA.two
      have lA := XA.lt
      have lw10 : w.heap.size < y10.heap.size := World.block_lt_of_cell? y10 _ c0
      have K0 : Hid ((y10.drew.cell? ⟨w.heap.size, 0, none⟩ = some (.slice wa m wc) ∧ y10.drew.cell? ⟨w.heap.size, 1, none⟩ = some (.slice da n dc)) ∧ y10.drew.cell? ⟨w5.heap.size, 0, none⟩ = some (SL g5 m) ∧ y10.drew.cell? ⟨w5.heap.size, 1, none⟩ = some (SL h5 n)) := ⟨⟨c0, c1⟩, x0, x1⟩
      clear XA
      go_wp2_with fail
      go_region_held3 (fun w' => (w'.cell? ⟨w.heap.size, 0, none⟩ = some (.slice wa m wc) ∧ w'.cell? ⟨w.heap.size, 1, none⟩ = some (.slice da n dc)) ∧ w'.cell? ⟨w5.heap.size, 0, none⟩ = some (SL g5 m) ∧ w'.cell? ⟨w5.heap.size, 1, none⟩ = some (SL h5 n))
        (first | (with_reducible exact K2.out) | (with_reducible exact K1.out) | (with_reducible exact K0.out) | go_keep)
        (first
        | (go_at_call 25
           refine (toMem_any wa m wc fs da n dc ds _ (INS4.out.1.below C10.out.bel.drew (Nat.le_refl _)) (INS4.out.2.1.below C10.out.bel.drew (Nat.le_refl _))).mono ?_
           rintro e y11 ⟨gq, hq, rfl, hgq, hhq, oq, pq, hb11⟩
           have hb11' : Below y10.heap.size y10 y11 := (Below.refl y10.heap.size y10).drew.trans hb11
           have HBQ : Hid (Below y10.heap.size y10 y11) := hb11'
           have TQ : Hid (TripAt y11 (some ⟨gq, 0, none⟩) m fs ∧ DescAt y11 (some ⟨hq, 0, none⟩) n ds) := ⟨own_tripAt oq hm1, pq.at HL.out hn1 SM.out⟩
           have K1 : Hid ((y11.cell? ⟨w.heap.size, 0, none⟩ = some (.slice wa m wc) ∧ y11.cell? ⟨w.heap.size, 1, none⟩ = some (.slice da n dc)) ∧ y11.cell? ⟨w5.heap.size, 0, none⟩ = some (SL g5 m) ∧ y11.cell? ⟨w5.heap.size, 1, none⟩ = some (SL h5 n)) := ⟨⟨(hb11'.cell lw10).trans c0, (hb11'.cell lw10).trans c1⟩, (hb11'.cell lA).trans x0, (hb11'.cell lA).trans x1⟩
           clear oq pq hb11 hb11' hgq hhq)
        | (go_at_call 27
           refine (eqMemV XF (some ⟨g5, 0, none⟩) (some ⟨h5, 0, none⟩) (some ⟨gq, 0, none⟩) (some ⟨hq, 0, none⟩) m n m n m n fs ds _ _ HXV.out.1 HXV.out.2 hm1 hn1 SM.out ((MOy.out.below HB8A.out (Nat.le_refl _)).below HBQ.out (Nat.le_refl _)) TQ.out.1 TQ.out.2).mono ?_
           rintro e y12 ⟨rfl, hb12⟩
           have hsq := HBQ.out.size
           have HBR : Hid (Below y10.heap.size y10 y12) := HBQ.out.trans (hb12.mono HBQ.out.size)
           have K2 : Hid ((y12.cell? ⟨w.heap.size, 0, none⟩ = some (.slice wa m wc) ∧ y12.cell? ⟨w.heap.size, 1, none⟩ = some (.slice da n dc)) ∧ y12.cell? ⟨w5.heap.size, 0, none⟩ = some (SL g5 m) ∧ y12.cell? ⟨w5.heap.size, 1, none⟩ = some (SL h5 n)) := ⟨⟨(hb12.cell (Nat.lt_of_lt_of_le lw10 hsq)).trans K1.out.1.1, (hb12.cell (Nat.lt_of_lt_of_le lw10 hsq)).trans K1.out.1.2⟩, (hb12.cell (Nat.lt_of_lt_of_le lA hsq)).trans K1.out.2.1, (hb12.cell (Nat.lt_of_lt_of_le lA hsq)).trans K1.out.2.2⟩
           clear hb12))
      have C12 : Hid (LC w4 W7.heap.size w8.heap.size (w8.heap.size + 1) G m fs n ds2 hT2 hS2 y12) := C10.out.on HBR.out
      have HB8C : Hid (Below y8.heap.size y8 y12) := HB8A.out.trans (HBR.out.mono HB8A.out.size)
      clear K0 K1 K2 c0 c1 c2 c3 x0 x1 lA lw10 HBQ TQ HBR C10 HB8A
      go_wp2_with fail
      refine (toEntryS_any la en lc es _ (INS4.out.2.2.1.below C12.out.bel (Nat.le_refl _))).mono ?_
      rintro e y13 ⟨rfl, o13, hb13⟩
      have C13 : Hid (LC w4 W7.heap.size w8.heap.size (w8.heap.size + 1) G m fs n ds2 hT2 hS2 y13) := C12.out.on hb13
      have HB8D : Hid (Below y8.heap.size y8 y13) := HB8C.out.trans (hb13.mono HB8C.out.size)
      have TE13 : Hid (TripAt y13 (some ⟨y12.heap.size, 0, none⟩) en es) := own_tripAt o13 hen1
      clear o13 hb13 C12 HB8C
      go_wp2_with fail
      refine (eqEntryS_any (some ⟨W5.heap.size, 0, none⟩) (some ⟨y12.heap.size, 0, none⟩) en en en en es es _ (own_tripAt (owns_below O2y.out HB8D.out (Nat.le_refl _)) hen1) TE13.out).mono ?_
      rintro e y14 ⟨rfl, hb14⟩
      rw [show decide (es = es) = true by simp]
      have C14 : Hid (LC w4 W7.heap.size w8.heap.size (w8.heap.size + 1) G m fs n ds2 hT2 hS2 y14) := C13.out.on hb14
      have HB8E : Hid (Below y8.heap.size y8 y14) := HB8D.out.trans (hb14.mono HB8D.out.size)
      clear hb14 C13 HB8D TE13
      obtain ⟨⟨c0, c1⟩, c2, c3⟩ := CEL4.out y14 C14.out.bel
      have XA := X15y.out.below HB8E.out X15y.out.lt
      obtain ⟨x0, x1, _, _⟩ := XA.two
      have lA := XA.lt
      have lw10 : w.heap.size + 1 < y14.heap.size := World.block_lt_of_cell? y14 _ c2
      have K0 : Hid ((y14.drew.cell? ⟨w.heap.size + 1, 0, none⟩ = some (.int .i64 cd) ∧ y14.drew.cell? ⟨w.heap.size + 1, 1, none⟩ = some (.slice ra rn rc)) ∧ y14.drew.cell? ⟨w7.heap.size, 0, none⟩ = some (.int .i64 cd) ∧ y14.drew.cell? ⟨w7.heap.size, 1, none⟩ = some (SL g7 rn)) := ⟨⟨c2, c3⟩, x0, x1⟩
      clear XA
      go_wp2_with fail
      go_region_held3 (fun w' => (w'.cell? ⟨w.heap.size + 1, 0, none⟩ = some (.int .i64 cd) ∧ w'.cell? ⟨w.heap.size + 1, 1, none⟩ = some (.slice ra rn rc)) ∧ w'.cell? ⟨w7.heap.size, 0, none⟩ = some (.int .i64 cd) ∧ w'.cell? ⟨w7.heap.size, 1, none⟩ = some (SL g7 rn))
        (first | (with_reducible exact K2.out) | (with_reducible exact K1.out) | (with_reducible exact K0.out) | go_keep)
        (first
        | (go_at_call 38
           refine (toRes_g ra rn rc cd rs _ (INS4.out.2.2.2.below C14.out.bel.drew (Nat.le_refl _))).mono ?_
           rintro e y15 ⟨gq, rfl, hgq, oq, hb15⟩
           have hb15' : Below y14.heap.size y14 y15 := (Below.refl y14.heap.size y14).drew.trans hb15
           have HBQ : Hid (Below y14.heap.size y14 y15) := hb15'
           have TQ : Hid (IntAt y15 (some ⟨gq, 0, none⟩) rn rs) := own_intAt oq (by omega)
           have K1 : Hid ((y15.cell? ⟨w.heap.size + 1, 0, none⟩ = some (.int .i64 cd) ∧ y15.cell? ⟨w.heap.size + 1, 1, none⟩ = some (.slice ra rn rc)) ∧ y15.cell? ⟨w7.heap.size, 0, none⟩ = some (.int .i64 cd) ∧ y15.cell? ⟨w7.heap.size, 1, none⟩ = some (SL g7 rn)) := ⟨⟨(hb15'.cell lw10).trans c2, (hb15'.cell lw10).trans c3⟩, (hb15'.cell lA).trans x0, (hb15'.cell lA).trans x1⟩
           clear oq hb15 hb15' hgq)
        | (go_at_call 41
           refine (eqRes_same (some ⟨g7, 0, none⟩) (some ⟨gq, 0, none⟩) rn rn rn rn cd rs _ (own_intAt (owns_below (owns_below O3y.out HB8E.out (Nat.le_refl _)) HBQ.out (Nat.le_refl _)) (by omega)) TQ.out).mono ?_
           rintro e y16 ⟨rfl, hb16⟩
           have hsq := HBQ.out.size
           have HBR : Hid (Below y14.heap.size y14 y16) := HBQ.out.trans (hb16.mono HBQ.out.size)
           have K2 : Hid ((y16.cell? ⟨w.heap.size + 1, 0, none⟩ = some (.int .i64 cd) ∧ y16.cell? ⟨w.heap.size + 1, 1, none⟩ = some (.slice ra rn rc)) ∧ y16.cell? ⟨w7.heap.size, 0, none⟩ = some (.int .i64 cd) ∧ y16.cell? ⟨w7.heap.size, 1, none⟩ = some (SL g7 rn)) := ⟨⟨(hb16.cell (Nat.lt_of_lt_of_le lw10 hsq)).trans K1.out.1.1, (hb16.cell (Nat.lt_of_lt_of_le lw10 hsq)).trans K1.out.1.2⟩, (hb16.cell (Nat.lt_of_lt_of_le lA hsq)).trans K1.out.2.1, (hb16.cell (Nat.lt_of_lt_of_le lA hsq)).trans K1.out.2.2⟩
           clear hb16))
      have C16 : Hid (LC w4 W7.heap.size w8.heap.size (w8.heap.size + 1) G m fs n ds2 hT2 hS2 y16) := C14.out.on HBR.out
      have HB8G : Hid (Below y8.heap.size y8 y16) := HB8E.out.trans (HBR.out.mono HB8E.out.size)
      clear K0 K1 K2 c0 c1 c2 c3 x0 x1 lA lw10 HBQ TQ HBR C14 HB8E
      obtain ⟨x0, x1, _, _⟩ := (X13y.out.below HB8G.out X13y.out.lt).two
      have X15g : Hid (Box y16 w7.heap.size #[.int .i64 cd, SL g7 rn] 68) := X15y.out.below HB8G.out X15y.out.lt
      have O2g : Hid (y16.ownsRow W5.heap.size 84 3 (SL W5.heap.size en) en (es.map I)) := owns_below O2y.out HB8G.out (Nat.le_refl _)
      have O3g : Hid (y16.ownsRow w6.heap.size 3 1 (SL g7 rn) rn (rs.map I)) := owns_below O3y.out HB8G.out (Nat.le_refl _)
      have MOg : Hid (MemO y16 w4.heap.size XF m fs n ds) := MOy.out.below HB8G.out (Nat.le_refl _)
      clear X13y X15y O2y O3y MOy HB8G
      go_wp2_with fail
      refine (markMemV XF (some ⟨g5, 0, none⟩) (some ⟨h5, 0, none⟩) m n m n fs ds _ _ HXV.out.1 HXV.out.2 hm1 hn1 SM.out MOg.out).mono ?_
      rintro e y17 ⟨rfl, _, hb17, ho17⟩
      have hoff := offN_le SM.out n (Nat.le_refl _)
      obtain ⟨k1, hk1⟩ : ∃ k1 : Int, 1 + (m : Int) * 3 + (offN ds n : Int) = k1 := ⟨_, rfl⟩
      have hk1a : 0 ≤ k1 := by omega
      have hk1b : k1 ≤ 4611686018427387 := by
        have : offN ds n ≤ 1048576 * 4194307 := Nat.le_trans hoff (Nat.mul_le_mul_right _ hn1)
        omega
      rw [hk1]
      have HE17 : Hid (∀ b, b < y16.heap.size → w5.heap.size ≤ b → y17.heap[b]? = y16.heap[b]?) := fun b hb h5 => ho17 b hb (fun a ha e => by have := XBL.out a ha b e; omega)
      have C17 : Hid (LC w4 W7.heap.size w8.heap.size (w8.heap.size + 1) G m fs n ds2 hT2 hS2 y17) := C16.out.far (hb17.mono (Nat.le_min.2 ⟨Nat.le_refl _, C16.out.bel.size⟩)) ⟨hw78, by omega⟩ (fun b hb h7 => HE17.out b hb (by omega))
      have X15h : Hid (Box y17 w7.heap.size #[.int .i64 cd, SL g7 rn] 68) := (HE17.out _ X15g.out.lt (by omega)).trans X15g.out
      have O2h : Hid (y17.ownsRow W5.heap.size 84 3 (SL W5.heap.size en) en (es.map I)) := owns_heap O2g.out (fun k hk => HE17.out k (O2g.out.lt k hk).2 (by have := (O2g.out.lt k hk).1; omega))
      have O3h : Hid (y17.ownsRow w6.heap.size 3 1 (SL g7 rn) rn (rs.map I)) := owns_heap O3g.out (fun k hk => HE17.out k (O3g.out.lt k hk).2 (by have := (O3g.out.lt k hk).1; omega))
      clear hb17 ho17 hoff hk1 HE17 C16 X15g O2g O3g MOg x0 x1
      go_wp2_with fail
      refine (markEntryS_o W5.heap.size (SL W5.heap.size en) en k1 es _ hen1 hk1a (by omega) O2h.out).mono ?_
      rintro e y18 ⟨rfl, _, ov18⟩
      obtain ⟨k2, hk2⟩ : ∃ k2 : Int, k1 + (en : Int) * 3 = k2 := ⟨_, rfl⟩
      have hk2a : 0 ≤ k2 := by omega
      have hk2b : k2 ≤ 4611686018427387904 := by omega
      rw [hk2]
      have hs18 := ov18.size
      have HE18 : Hid (∀ b, W5.heap.size < b → y18.heap[b]? = y17.heap[b]?) := fun b hb => ov18.oth b (fun e => by have e2 : W5.heap.size = b := Option.some.inj e; omega)
      have C18 : Hid (LC w4 W7.heap.size w8.heap.size (w8.heap.size + 1) G m fs n ds2 hT2 hS2 y18) := C17.out.far (ov18.bel.mono (by omega)) ⟨hw78, by omega⟩ (fun b hb h7 => HE18.out b (by omega))
      have X15i : Hid (Box y18 w7.heap.size #[.int .i64 cd, SL g7 rn] 68) := (HE18.out _ (by omega)).trans X15h.out
      have O3i : Hid (y18.ownsRow w6.heap.size 3 1 (SL g7 rn) rn (rs.map I)) := owns_heap O3h.out (fun k hk => HE18.out k (by have := (O3h.out.lt k hk).1; omega))
      clear ov18 hk2 hs18 HE18 C17 X15h O2h O3h
      obtain ⟨x0, x1, _, _⟩ := X15i.out.two
      go_wp2_with fail
      refine (markRes_o w6.heap.size cd (SL g7 rn) rn k2 rs _ hrn1 hk2a (by omega) O3i.out).mono ?_
      rintro e y19 ⟨rfl, hb19, ho19⟩
      obtain ⟨k3, hk3⟩ : ∃ k3 : Int, k2 + (rn : Int) = k3 := ⟨_, rfl⟩
      have hk3n : ¬ k3 < 0 := by omega
      rw [hk3]
      have hsz18 := C18.out.q17.lt
      have C19 : Hid (LC w4 W7.heap.size w8.heap.size (w8.heap.size + 1) G m fs n ds2 hT2 hS2 y19) := C18.out.far (hb19.mono (Nat.le_min.2 ⟨by omega, C18.out.bel.size⟩)) ⟨hw78, by omega⟩ (fun b hb h7 => ho19 b hb (fun e => by have e2 : g7 = b := Option.some.inj e; omega))
      clear hb19 ho19 hk3 hk1a hk1b hk2a hk2b hsz18 C18 X15i O3i x0 x1
      obtain ⟨a0, a1, _, _⟩ := (X10.out.below C19.out.bel l10).two
      obtain ⟨q0, q1, _, _⟩ := C19.out.q16.two
      rw [HG.out.1] at q0
      rw [HG.out.2] at q1
      go_wp2_with fail
      refine (eqMemV G ga ha pa pd gc hc pc pdc m n fs ds2 _ _ HG.out.1 HG.out.2 hm1 hn1 SM'.out.1 C19.out.g0 (T4.out.1.below C19.out.bel (Nat.le_refl _)) (T4.out.2.below C19.out.bel (Nat.le_refl _))).mono ?_
      rintro e y20 ⟨rfl, hb20⟩
      have C20 : Hid (LC w4 W7.heap.size w8.heap.size (w8.heap.size + 1) G m fs n ds2 hT2 hS2 y20) := C19.out.on hb20
      clear hb20 a0 a1 q0 q1 C19
      obtain ⟨⟨a2, a3, a4, a5⟩, _⟩ := (X11.out.below C20.out.bel l11).four
      obtain ⟨⟨k2', k3', k4', k5'⟩, _⟩ := C20.out.q17.four
      go_wp2_with fail
      refine (eqHelp_same hT2 hS2 0 0 _).mono ?_
      rintro e y21 ⟨rfl, hb21⟩
      have C21 : Hid (LC w4 W7.heap.size w8.heap.size (w8.heap.size + 1) G m fs n ds2 hT2 hS2 y21) := C20.out.on hb21
      clear hb21 a2 a3 a4 a5 k2' k3' k4' k5' C20
      obtain ⟨q0, q1, _, _⟩ := C21.out.q16.two
      rw [HG.out.1] at q0
      rw [HG.out.2] at q1
      go_wp2_with fail
      refine (markMemV G ga ha gc hc m n fs ds2 _ _ HG.out.1 HG.out.2 hm1 hn1 SM'.out.1 C21.out.g0).mono ?_
      rintro e y22 ⟨rfl, mo22, hb22, ho22⟩
      have C22 : Hid (LC w4 W7.heap.size w8.heap.size (w8.heap.size + 1) G m (asc 1 (m * 3)) n (markDs (1 + (m : Int) * 3) ds2 n) hT2 hS2 y22) := ⟨C21.out.bel.trans (hb22.mono (Nat.le_min.2 ⟨HB4W7.out.size, C21.out.bel.size⟩)), mo22, (ho22 _ C21.out.q16.lt (fun a ha e => by have := GB.out a ha _ e; omega)).trans C21.out.q16, (ho22 _ C21.out.q17.lt (fun a ha e => by have := GB.out a ha _ e; omega)).trans C21.out.q17⟩
      clear mo22 hb22 ho22 C21 q0 q1
      obtain ⟨q0, q1, _, _⟩ := C22.out.q16.two
      rw [HG.out.1] at q0
      rw [HG.out.2] at q1
      go_wp2_with fail
      refine (heldMemV G ga ha gc hc m n ds2 _ _ HG.out.1 HG.out.2 hm1 hn1 SM'.out.1 C22.out.g0).mono ?_
      rintro e y23 ⟨rfl, hb23⟩
      have C23 : Hid (LC w4 W7.heap.size w8.heap.size (w8.heap.size + 1) G m (asc 1 (m * 3)) n (markDs (1 + (m : Int) * 3) ds2 n) hT2 hS2 y23) := C22.out.on hb23
      clear hb23 C22 q0 q1
      obtain ⟨M, hM⟩ : ∃ M : Int, 1 + (m : Int) * 3 + (offN ds2 n : Int) = M := ⟨_, rfl⟩
      have hMn : ¬ M < 0 := by omega
      rw [hM]
      have HM : Hid (1 + (m : Int) * 3 + (offN ds2 n : Int) = M) := hM
      clear hM
      have CEL23 := fun w' (hb : Below y23.heap.size y23 w') => CEL4.out w' (C23.out.bel.trans (hb.mono C23.out.bel.size))
      have CELh : Hid (∀ w', Below y23.heap.size y23 w' → _) := CEL23
      clear CEL23
      have INSh : Hid (TripAt y23 wa m fs ∧ DescAt y23 da n ds ∧ TripAt y23 la en es ∧ IntAt y23 ra rn rs) := ⟨INS4.out.1.below C23.out.bel (Nat.le_refl _), INS4.out.2.1.below C23.out.bel (Nat.le_refl _), INS4.out.2.2.1.below C23.out.bel (Nat.le_refl _), INS4.out.2.2.2.below C23.out.bel (Nat.le_refl _)⟩
      go_wp2_with fail
      refine Code.wp_mono ?rest2 (reg38_wp wa m wc fs da n dc ds t la en lc es cd ra rn rc rs w y23 CELh.out INSh.out SM.out HL.out hm1 hn1 hen1 hrn1)
      intro ex a' y24 h
      cases ex
      case normal =>
        obtain ⟨b22, b23, e1g, e1h, e2g, e3g, ua, uc, ud, udc, U, ds3, hT3, hS3, ok3, rfl, hU, says3, ans3⟩ := h
        obtain ⟨rfl, rfl, rfl, rfl⟩ := beginSays_one SAYS.out says3
        have U2 : Hid (U 0 = .slice ua m uc ∧ U 1 = .slice ud n udc) := hU
        have X22 : Box y24 b22 #[.slice ua m uc, .slice ud n udc] 46 := by
          have := ans3.mem
          rw [hU.1, hU.2] at this
          exact this
        have X23 : Hid (Box y24 b23 #[.int .i64 hT3, .int .i64 hS3, .int .i64 0, .int .i64 0] 52) := ans3.help
        have MU : Hid (MemO y24 y23.heap.size U m fs n ds3) := ans3.own
        have C24 : Hid (LC w4 W7.heap.size w8.heap.size (w8.heap.size + 1) G m (asc 1 (m * 3)) n (markDs (1 + (m : Int) * 3) ds3 n) hT3 hS3 y24) := C23.out.on ans3.bel
        obtain ⟨z0, z1, _, _⟩ := X22.two
        obtain ⟨a0, a1, _, _⟩ := (X10.out.below C24.out.bel l10).two
        clear says3 hU ans3 C23 X22 CELh INSh
        go_wp2_with fail
        refine (eqMemV U ua ud pa pd uc udc pc pdc m n fs ds3 _ _ U2.out.1 U2.out.2 hm1 hn1 SM'.out.1 MU.out (T4.out.1.below C24.out.bel (Nat.le_refl _)) (T4.out.2.below C24.out.bel (Nat.le_refl _))).mono ?_
        rintro e y25 ⟨rfl, hb25⟩
        have C25 : Hid (LC w4 W7.heap.size w8.heap.size (w8.heap.size + 1) G m (asc 1 (m * 3)) n (markDs (1 + (m : Int) * 3) ds3 n) hT3 hS3 y25) := C24.out.on hb25
        obtain ⟨⟨a2, a3, a4, a5⟩, _⟩ := (X11.out.below C25.out.bel l11).four
        obtain ⟨⟨z2, z3, z4, z5⟩, _⟩ := (X23.out.below hb25 X23.out.lt).four
        clear hb25 a0 a1 z0 z1 C24 X23 MU U2
        go_wp2_with fail
        refine (eqHelp_same hT3 hS3 0 0 _).mono ?_
        rintro e y26 ⟨rfl, hb26⟩
        have C26 : Hid (LC w4 W7.heap.size w8.heap.size (w8.heap.size + 1) G m (asc 1 (m * 3)) n (markDs (1 + (m : Int) * 3) ds3 n) hT3 hS3 y26) := C25.out.on hb26
        clear hb26 a2 a3 a4 a5 z2 z3 z4 z5 C25
        obtain ⟨q0, q1, _, _⟩ := C26.out.q16.two
        rw [HG.out.1] at q0
        rw [HG.out.2] at q1
        go_wp2_with fail
        refine (heldMemV G ga ha gc hc m n ds3 _ _ HG.out.1 HG.out.2 hm1 hn1 SM'.out.1 C26.out.g0).mono ?_
        rintro e y27 ⟨rfl, hb27⟩
        rw [HM.out]
        have hc27 := C26.out.on hb27
        have hall : Below w.heap.size w y27 := HBW4.out.trans (hc27.bel.mono HBW4.out.size)
        clear hb27 hc27 C26 q0 q1
        go_wp2
        go_ret
        exact ⟨rfl, hall⟩
      all_goals exact h.elim
    all_goals exact h.elim
set_option maxRecDepth 100000 in
theorem lifted (os : Os) (started : os.Started) (H : Type) (enc : TypeId × Value → H) :
    ReturnsInHanded {} Try.checked os 7 .any (Rows.fnExactBeginSpec.pre6 enc Try.prog Try.f7 Rows.fnExactBeginRow.domain false) (Rows.fnExactBeginSpec.post enc Try.prog Try.f7 false true false false) := by
  refine returnsInHanded_of_change (C := Try.checked) own started (by kernel_rfl) Try.func7
    (ChangeSpec.witness6 (enc := enc) (C := Try.checked) false ⟨#[], #[.agg #[.slice none 0 0, .slice none 0 0], .int .i64 0, .slice none 0 0, .agg #[.int .i64 0, .slice none 0 0]], []⟩ 8 (by kernel_rfl) (by kernel_rfl) (by kernel_rfl) (by kernel_rfl)) ?_
  intro W base args ds gs before hval0 hW hcnd _
  have hval : ∀ (j : Nat) t v, Try.f7.params[j]? = some t → args[j]? = some v → Value.okWide Try.prog W .any base t v := hval0
  have hW' := hW
  obtain ⟨p, q, hA0, hV, rfl, hfz, hnd⟩ := hW
  have hA : DataW.TrodAll enc Try.prog W 0 (fun _ => true) true Try.f7.params.toList args.toList ds p := hA0
  rw [Try.params7] at hA hval
  obtain ⟨v0, v1, v2, v3, d0, d1, d2, d3, p0, p1, p2, p3, rfl, rfl, rfl, h0, h1, h2, h3⟩ := trodAll_four hA
  obtain ⟨rfl, rfl⟩ := trodVars_none hV
  have k0 := h0
  have k1 := h1
  have k2 := h2
  have k3 := h3
  have lt0 : ∀ x ∈ p0, x.block < W.heap.size := by obtain ⟨m, hm⟩ := k0; exact DataW.trod_lt m _ _ _ hm
  have lt1 : ∀ x ∈ p1, x.block < W.heap.size := by obtain ⟨m, hm⟩ := k1; exact DataW.trod_lt m _ _ _ hm
  have lt2 : ∀ x ∈ p2, x.block < W.heap.size := by obtain ⟨m, hm⟩ := k2; exact DataW.trod_lt m _ _ _ hm
  have lt3 : ∀ x ∈ p3, x.block < W.heap.size := by obtain ⟨m, hm⟩ := k3; exact DataW.trod_lt m _ _ _ hm
  obtain ⟨wa, m, wc, fs, da, n, dc, dsl, rfl, hm, hn, hT, hD⟩ := open_mem (hval 0 42 v0 rfl rfl) h0
  obtain ⟨t, rfl⟩ := okWide_int Try.underlying3 (hval 1 3 v1 rfl rfl)
  obtain ⟨la0, en0, lc0, rfl⟩ := okWide_slice Try.underlying59 (hval 2 59 v2 rfl rfl)
  obtain ⟨fuel, hf⟩ := h2
  have hf' : DataW.trod enc Try.prog W 0 (fun _ => true) true fuel 59 [.slice la0 en0 lc0] = some (d2, p2) := by simpa [Value.cells] using hf
  obtain ⟨la, en, lc, es, e2, he, _, hE⟩ := open_trips Try.underlying59 Try.underlying108 (by kernel_rfl) rfl rfl rfl (by kernel_rfl) (by kernel_rfl) (by kernel_rfl) Try.underlying3 Try.underlying3 Try.underlying3 hf'
  cases e2
  obtain ⟨ra, rn, rc, cd, rs, rfl, hr, _, hR⟩ := open_res (hval 3 61 v3 rfl rfl) h3
  refine (walk wa m wc fs da n dc dsl t la0 en0 lc0 es cd ra rn rc rs W hm hn he hr hT hD hE hR).mono fun e W' ⟨he', bel⟩ => ?_
  subst he'
  exact ⟨_, rfl, _, _, _, [], _, [], hW', trodAll_mk1 (shut_bool Try.underlying4 _), (trodAll_cons_mk (Below.trod laidOut (by kernel_rfl) (of_decide_eq_true (by kernel_rfl)) k0 bel lt0) (trodAll_cons_mk (Below.trod laidOut (by kernel_rfl) (of_decide_eq_true (by kernel_rfl)) k1 bel lt1) (trodAll_cons_mk (Below.trod laidOut (by kernel_rfl) (of_decide_eq_true (by kernel_rfl)) k2 bel lt2) (trodAll_cons_mk (Below.trod laidOut (by kernel_rfl) (of_decide_eq_true (by kernel_rfl)) k3 bel lt3) trodAll_mk0)))), rfl, bel.frame _, fun h => by cases h⟩
end fnExactBegin
theorem fnExactBegin_holds : Rows.FnExactBeginSaid :=
  OpenClaim.holds_of_wide 7 Try.f7 rfl rfl rfl rfl rfl rfl rfl ⟨rfl, rfl, rfl, rfl, rfl⟩ rfl rfl rfl rfl rfl (by kernel_rfl) Try.func7 (by kernel_rfl)
    (of_decide_eq_true (by kernel_rfl)) (by unfold Func.isWrapper; first | (rw [if_pos (by decide +kernel)]; kernel_rfl) | (rw [if_neg (by decide +kernel)]; exact ⟨rfl, rfl⟩))
    (fun os started H enc _ => fnExactBegin.lifted os started H enc)
end Go.Proofs.Ytbdfopokimpeiaq
