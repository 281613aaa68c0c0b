/- inOrder: all the places of a map by name, in order. -/
import Derived.Test.YtmgofehafjogfaaNmL
import Derived.Test.YtmgofehafjogfaaSortI
import Derived.Maps.AppendAt
namespace Go.Proofs.Ytmgofehafjogfaa
open Go.ChangeShapes Go.WideShapes Go.ChangeAt Go.RowKit Go.Maps

theorem nodup_lt : ∀ (m : Nat) (zs : List Int), zs.Nodup → (∀ x ∈ zs, 0 ≤ x ∧ x < (m : Int)) → zs.length ≤ m
  | 0, zs, _, h => by
    cases zs with
    | nil => simp
    | cons x r => have := h x (by simp); omega
  | m + 1, zs, hn, h => by
    have h1 := nodup_lt m (zs.erase (m : Int)) (hn.erase _) fun x hx => by
      obtain ⟨h2, h3⟩ := hn.mem_erase_iff.1 hx
      have := h x h3
      omega
    rw [List.length_erase] at h1
    split at h1 <;> omega
/-- They lie there, in order. -/
def OrdAt (w : World) (v : Value) (zs : List Int) : Prop := ∃ a n c, v = .slice a n c ∧ n ≤ 12 ∧ n ≤ c ∧ IntAt w a n zs ∧ ∀ p q, p < q → q < n → zs.getD p 0 ≤ zs.getD q 0
set_option maxHeartbeats 8000000 in
set_option maxRecDepth 100000 in
theorem inOrder_any (w : World) (b n base m : Nat) (F : List UInt8 → List Int) (h : MapN w b n base F) (hm : m ≤ 12) (hF : ∀ t x, x ∈ F t → 0 ≤ x ∧ x < (m : Int)) (hd : ∀ t t' x, x ∈ F t → x ∈ F t' → t = t') (hnd : ∀ t, (F t).Nodup) :
    Calls Try.prog 88 #[.map (some b)] w fun e w' => (∃ v zs, e = .returned v ∧ OrdAt w' v zs ∧ ∀ x, x ∈ zs ↔ ∃ t, x ∈ F t) ∧ Below w.heap.size w w' := by
  obtain ⟨R, D, hown, hR, hbb, hD⟩ := h
  have HR : Hid (RowsN R w base) := hR
  have HD1 : Hid (ND D F) := hD
  have HF : Hid (∀ t x, x ∈ F t → 0 ≤ x ∧ x < (m : Int)) := hF
  have HD2 : Hid (∀ t t' x, x ∈ F t → x ∈ F t' → t = t') := hd
  have HND : Hid (∀ t, (F t).Nodup) := hnd
  have hblt := hown.lt
  obtain ⟨i0, hin, hz0, hz1, hz2⟩ := info_parts infoInt
  clear hR hD hbb hF hd hnd
  go_enter Try.func88, Try.ntmps88
  go_wp2_with (first | (at_range; refine wpList_range_own _ rfl _ 85 rfl 9 25 mapLawN Try.underlying85 R b n D rfl hown ?_; intro w2 hrg0 hg0 hs2) | fail)
  go_frame
  have hb2 : Below w.heap.size w w2 := (Below.refl _ _).grown hg0 (Nat.le_refl _) (fun k e => by cases e)
  clear hown hg0
  go_loopw [3] (fun v wr => ∃ left cnt, ∃ l : List Int, wr.ranges Try.prog 9 R b w.heap.size n D left cnt ∧ wr.ownsRow (w.heap.size + 1) 3 1 v l.length (l.map I) ∧ (∀ x, x ∈ l ↔ ∃ t, x ∈ F t ∧ left (.string t) = false) ∧ l.Nodup ∧ Below w.heap.size w wr ∧ w.heap.size + 1 ≤ wr.heap.size) (fun _ wr => wr.rangeLeft b w.heap.size)
  case atStart =>
    refine ⟨_, _, [], hrg0, World.ownsRow_nil _ _ _ _, fun x => ⟨fun h => by simp at h, fun ⟨t, h1, h2⟩ => ?_⟩, by simp, hb2, by omega⟩
    rw [(HD1.out.2 _).1, decide_eq_true (List.ne_nil_of_mem h1)] at h2
    cases h2
  case round =>
    obtain ⟨left, cnt, l, hrg, hown, hmem, hnl, hbr, hsz⟩ := hrel
    have HOWN : Hid (wr.ownsRow (w.heap.size + 1) 3 1 _ l.length (l.map I)) := hown
    have HMEM : Hid (∀ x, x ∈ l ↔ ∃ t, x ∈ F t ∧ left (.string t) = false) := hmem
    have HNL : Hid l.Nodup := hnl
    clear hrg0 hb2 hown hmem hnl
    go_wp2_with (first | (at_next; refine wpList_next_names _ rfl _ rfl R HR.out b w.heap.size n D HD1.out left cnt rfl hrg ?_ ?_) | fail)
    · intro _ hl0
      have HALL : Hid (∀ x, x ∈ l ↔ ∃ t, x ∈ F t) := fun x => (HMEM.out x).trans ⟨fun ⟨t, h1, _⟩ => ⟨t, h1⟩, fun ⟨t, h1⟩ => ⟨t, h1, hl0 _⟩⟩
      have hlen : l.length ≤ 12 := Nat.le_trans (nodup_lt m l HNL.out fun x hx => by obtain ⟨t, ht⟩ := (HALL.out x).1 hx; exact HF.out t x ht) hm
      clear hl0
      rcases HOWN.out.2 with ⟨rfl, h0⟩ | ⟨g, cap, cur, rfl, hg, hcur, hcap, hmax, hcs, htake⟩
      · have hl : l = [] := List.length_eq_zero_iff.1 h0
        subst hl
        go_wp2_with fail
        refine (sort_none _).mono ?_
        rintro e w5 ⟨rfl, rfl⟩
        go_wp2
        go_ret
        exact ⟨⟨_, [], rfl, ⟨none, 0, 0, rfl, by omega, by omega, ⟨rfl, by omega, .inl rfl⟩, fun p q _ h => by omega⟩, HALL.out⟩, hbr⟩
      · have HSW : Hid (SW wr g 0 l.length (fun i => l.getD i 0)) := ⟨cur, 3, hcur, fun i hi => by
          have h1 : (cur.toList.take (l.length * 1))[i]? = some (I (l.getD i 0)) := by
            rw [htake, List.getElem?_map, List.getElem?_eq_getElem hi]
            simp [List.getD, hi]
          rw [List.getElem?_take_of_lt (by omega), Array.getElem?_toList] at h1
          rw [Nat.zero_add]
          exact h1⟩
        have hglt : g < wr.heap.size := (Array.getElem?_eq_some_iff.1 hcur).1
        have HG : Hid (w.heap.size + 1 ≤ g) := hg
        have HGL : Hid (g < wr.heap.size) := hglt
        have HBR : Hid (Below w.heap.size w wr) := hbr
        have HCAP : Hid (l.length ≤ cap) := hcap
        obtain ⟨q, hq⟩ : ∃ q, l.length = q := ⟨_, rfl⟩
        have HQ : Hid (l.length = q) := hq
        rw [hq] at hlen HSW HCAP ⊢
        clear hg hcur hcap hmax hcs htake hglt hrg hbr hq HOWN
        go_wp2_with fail
        refine (sort_any g 0 q cap (fun i => l.getD i 0) hlen _ HGL.out HSW.out).mono ?_
        rintro e w5 ⟨⟨rfl, f, hsw, hme, hso⟩, hb5⟩
        have HB5 : Hid (Below w.heap.size w w5) := HBR.out.trans (hb5.mono (by have := HG.out; omega))
        have HSW5 : Hid (SW w5 g 0 q f) := hsw
        have HME : Hid (∀ x, (∃ i, i < q ∧ f i = x) ↔ ∃ i, i < q ∧ l.getD i 0 = x) := hme
        have HSO : Hid (∀ p r, p < r → r < q → f p ≤ f r) := hso
        clear hb5 hsw hme hso
        go_wp2
        go_ret
        have hget : ∀ i, i < q → ((List.range q).map f).getD i 0 = f i := fun i hi => by simp [List.getD, hi]
        refine ⟨⟨_, (List.range q).map f, rfl, ⟨some ⟨g, 0, none⟩, q, cap, rfl, hlen, HCAP.out, ⟨by simp, by omega, .inr ⟨g, 0, rfl, fun i hi => ?_⟩⟩, fun p r h1 h2 => ?_⟩, fun x => ?_⟩, HB5.out⟩
        · rw [hget i hi]; exact HSW5.out.cell i hi
        · rw [hget p (by omega), hget r h2]; exact HSO.out p r h1 h2
        · rw [← HALL.out x, List.mem_map]
          constructor
          · rintro ⟨i, hi, rfl⟩
            obtain ⟨j, hj, e⟩ := (HME.out (f i)).1 ⟨i, List.mem_range.1 hi, rfl⟩
            have hj' : j < l.length := by rw [HQ.out]; exact hj
            rw [← e, List.getD, List.getElem?_eq_getElem hj']
            exact List.getElem_mem hj'
          · intro hx
            obtain ⟨j, hj, e⟩ := List.getElem_of_mem hx
            obtain ⟨i, hi, e2⟩ := (HME.out x).2 ⟨j, by rw [← HQ.out]; exact hj, by rw [List.getD, List.getElem?_eq_getElem hj]; exact e⟩
            exact ⟨i, List.mem_range.2 hi, e2⟩
    · intro s p l2 c' w3 cnt3 hs hls hFs hrow hrg3 hlt hg3 hs3 hen
      have hb3 : Below w.heap.size w w3 := hbr.grown hg3 hbr.size (fun k e => by cases e; exact Nat.le_refl _)
      obtain rfl := rowN_len hrow
      have hFl := nodup_lt m _ (HND.out s.data.toList) (HF.out s.data.toList)
      obtain ⟨g, rfl, hia, hglt, _⟩ := rowN_at hrow hFs (by omega)
      have hia3 := hia.below hb3 (Nat.le_refl _)
      have hsame : ∀ x, x ∈ l ++ F s.data.toList ↔ ∃ t, x ∈ F t ∧ (left (.string t) && !(Lit.string t).sameKey (.string s.data.toList)) = false := fun x => by
        rw [List.mem_append, HMEM.out x]
        constructor
        · rintro (⟨t, h1, h2⟩ | h1)
          · exact ⟨t, h1, by rw [h2]; rfl⟩
          · exact ⟨_, h1, by rw [sameKeyN, decide_eq_true rfl]; simp⟩
        · rintro ⟨t, h1, h2⟩
          rw [sameKeyN] at h2
          by_cases e : t = s.data.toList
          · rw [e] at h1; exact .inr h1
          · rw [decide_eq_false e] at h2
            exact .inl ⟨t, h1, by simpa using h2⟩
      have hnd2 : (l ++ F s.data.toList).Nodup := List.nodup_append.2 ⟨HNL.out, HND.out _, fun x hx y hy e => by
        subst e
        obtain ⟨t, h1, h2⟩ := (HMEM.out x).1 hx
        rw [HD2.out t _ x h1 hy, hls] at h2
        cases h2⟩
      have hll : (l ++ F s.data.toList).length ≤ m := nodup_lt m _ hnd2 fun x hx => by obtain ⟨t, ht, _⟩ := (hsame x).1 hx; exact HF.out t x ht
      have HSAME : Hid (∀ x, x ∈ l ++ F s.data.toList ↔ ∃ t, x ∈ F t ∧ (left (.string t) && !(Lit.string t).sameKey (.string s.data.toList)) = false) := hsame
      have HND2 : Hid (l ++ F s.data.toList).Nodup := hnd2
      have HRG : Hid (w3.ranges Try.prog 9 R b w.heap.size n D (fun z => left z && !z.sameKey (.string s.data.toList)) cnt3) := hrg3
      have HB3 : Hid (Below w.heap.size w w3) := hb3
      have HLT : Hid (cnt3 < wr.rangeLeft b w.heap.size) := by rw [hrg.left_eq]; exact hlt
      have HO3 : Hid (w3.ownsRow (w.heap.size + 1) 3 1 _ l.length (l.map I)) := HOWN.out.kept hg3 (by
        rcases HOWN.out.2 with ⟨rfl, _⟩ | ⟨g', cap, cur, rfl, hgg, _⟩
        · exact .inl rfl
        · exact .inr (fun e => by have e2 : g' = w.heap.size := Option.some.inj e; omega))
      have HNEWS : Hid (∀ j u, ((F s.data.toList).map I)[j]? = some u → w3.cell? ((⟨g, 0, none⟩ : Addr).add j) = some u) := fun j u hj => by
        rw [List.getElem?_map] at hj
        obtain ⟨x, hx, rfl⟩ := Option.map_eq_some_iff.1 hj
        have hj' := (List.getElem?_eq_some_iff.1 hx).1
        rcases hia3.2.2 with h0 | ⟨p, q, he, hcell⟩
        · omega
        · cases he
          rw [add_plain, hcell j hj']
          simp [List.getD, hx]
      rw [List.length_append] at hll
      have HS3 : Hid (w.heap.size + 1 ≤ w3.heap.size) := by rw [hs3]; exact hsz
      obtain ⟨fs, hfs⟩ : ∃ fs, F s.data.toList = fs := ⟨_, rfl⟩
      have HFS : Hid (F s.data.toList = fs) := hfs
      rw [hfs] at hFl hll hen HNEWS HSAME HND2
      clear hls hrg3 hb3 hrow hFs hg3 hlt hrg hbr hia hia3 hsame hnd2 hsz hfs hs3
      go_wp2_with (first
        | (at_builtin; refine wpList_append_own_at _ rfl _ _ 25 rfl (w.heap.size + 1) 3 i0 (.int .i64 0) 1 8 Try.underlying25 hin hz0 hz1 hz2 rfl (by decide) _ l.length (l.map I) rfl HO3.out ⟨g, 0, none⟩ fs.length c' (fs.map I) rfl (by simp) HNEWS.out (fun u hu => by obtain ⟨z, _, rfl⟩ := List.mem_map.1 hu; rfl) (by unfold maxLen; omega) (by omega) HS3.out ?_; intro v' w4 hown' hgrow hnil hloc)
        | go_in)
      go_roundw
      case rel =>
        have hne : ∀ j, j < w.heap.size + 1 → ¬ Value.ownBlock _ = some j := fun j hj e => by have := (HO3.out.lt j e).1; omega
        refine ⟨_, _, l ++ fs, HRG.out.kept hgrow (fun e => hne _ (by omega) e.symm) (fun e => hne _ (by omega) e.symm), ?_, HSAME.out, HND2.out, HB3.out.grown hgrow HB3.out.size (fun k e => Nat.le_trans (Nat.le_succ _) (HO3.out.lt k e).1), Nat.le_trans HS3.out hgrow.size⟩
        rw [List.length_append, List.map_append]
        exact hown'
      case measure =>
        have hne : ∀ j, j < w.heap.size + 1 → ¬ Value.ownBlock _ = some j := fun j hj e => by have := (HO3.out.lt j e).1; omega
        rw [(HRG.out.kept hgrow (fun e => hne _ (by omega) e.symm) (fun e => hne _ (by omega) e.symm)).left_eq]
        exact HLT.out
end Go.Proofs.Ytmgofehafjogfaa
