import Derived.Test.YtbolgodoifbnnaaRfe
namespace Go.Proofs.Ytbolgodoifbnnaa
open Go.RowKit Go.Mem Go.Esc

/-- from a field on -/
def headD (f : Nat) (l : Bs) : Got (List Bs) := match fieldD l with
  | .err k => .err k
  | .got v r => (tailD f r).cons v
def Fit (f : Nat) (l : Bs) : Prop := ∀ v r, fieldD l = .got v r → r.length ≤ f
theorem head_first {l : Bs} (h : l ≠ []) : ∃ f, fieldsD l = headD f l ∧ Fit f l := by
  rw [fieldsD, if_neg h]
  unfold headD Fit
  rcases fieldD l with k | ⟨v, r⟩
  · exact ⟨0, rfl, fun _ _ h => by cases h⟩
  · exact ⟨r.length, rfl, fun v' r' h => by cases h; exact Nat.le_refl _⟩
theorem head_err {f : Nat} {l : Bs} {k : Int} (h : fieldD l = .err k) : headD f l = .err k := by rw [headD, h]
theorem head_last {f : Nat} {l v : Bs} (h : fieldD l = .got v []) : headD f l = .got [v] [] := by rw [headD, h]; simp only [tail_nil]; rfl
theorem head_bad {f : Nat} {l v r : Bs} (hf : Fit f l) (h : fieldD l = .got v r) (h1 : r ≠ []) (h2 : r.head? ≠ some 32) : headD f l = .err 3 := by
  rw [headD, h]
  simp only [tail_bad (hf _ _ h) h1 h2]
  rfl
theorem head_next {f : Nat} {l v r : Bs} (hf : Fit f l) (h : fieldD l = .got v (32 :: r)) : ∃ f', headD f l = (headD f' r).cons v ∧ Fit f' r := by
  have hr := hf _ _ h
  simp at hr
  obtain ⟨f', rfl⟩ : ∃ f', f = f' + 1 := ⟨f - 1, by omega⟩
  refine ⟨f', ?_, fun v' r' h' => ?_⟩
  · rw [headD, h]
    simp only
    rw [tailD, if_neg (by simp), if_pos (by rfl), List.tail_cons]
    rfl
  · have := (field_lt h').1
    omega

def FInv2 (w : World) (T : Got (List Bs)) (g : Nat) (v0 v4 : Value) (wr : World) : Prop :=
  ∃ (s : ByteArray) (acc : List Bs) (l : Bs) (f : Nat), v0 = .string s ∧ s.data.toList = l ∧ l.length ≤ g ∧ T = (headD f l).glue acc ∧ Fit f l ∧ wr.ownsRow w.heap.size 9 1 v4 acc.length (acc.map strV) ∧ acc.length + l.length ≤ 999990 ∧ Fr w wr (fun _ => False)

theorem rFields_nil (s : ByteArray) (w : World) (h : s.size = 0) : Calls Try.prog 12 #[.string s] w (FldL (fieldsD s.data.toList) w) := by
  have hl : s.data.toList = [] := List.length_eq_zero_iff.1 (by rw [bytes_len]; exact h)
  rw [hl]
  have e1 : ((s.size : Int) == 0) = true := beq_iff_eq.2 (by omega)
  clear hl h
  go_enter Try.func12, Try.ntmps12
  go_wp2_with fail
  go_ret2
  exact ⟨Fr.refl _ _, _, rfl, World.ownsRow_nil _ _ _ _⟩
set_option maxHeartbeats 4000000 in
set_option maxRecDepth 100000 in
theorem rFields_some (s : ByteArray) (w : World) (hz : s.size ≤ 999990) (h0 : 0 < s.size) : Calls Try.prog 12 #[.string s] w (FldL (fieldsD s.data.toList) w) := by
  have hne : s.data.toList ≠ [] := fun e => by have := bytes_len s; rw [e] at this; simp at this; omega
  have e1 : ((s.size : Int) == 0) = false := beq_eq_false_iff_ne.2 (by omega)
  obtain ⟨T, hT⟩ : ∃ T, fieldsD s.data.toList = T := ⟨_, rfl⟩
  rw [hT]
  obtain ⟨f, hf, hfit⟩ := head_first hne
  rw [hT] at hf
  have HT := Lib.hid hf
  have HFIT := Lib.hid hfit
  have hlen := bytes_len s
  clear hne hT hf hfit
  go_enter Try.func12, Try.ntmps12
  go_wp2_with fail
  go_loopg [0, 4] s.size (fun g v0 v4 wr => FInv2 w T g v0 v4 wr)
  case atStart => exact ⟨s, [], _, f, rfl, rfl, by omega, by rw [HT.out, glue_nil], HFIT.out, World.ownsRow_nil _ _ _ _, by simp; omega, Fr.refl _ _⟩
  case round =>
    obtain ⟨s1, acc, l, f1, rfl, hl, hlg, hTe, hfit, hown, hal, hf⟩ := hrel
    have hll := bytes_len s1
    rw [hl] at hll
    have HL := Lib.hid hl
    have HLG := Lib.hid hlg
    have HTE := Lib.hid hTe
    have HFI := Lib.hid hfit
    have HO := Lib.hid hown
    have HF := Lib.hid hf
    have hws := hf.size
    obtain ⟨A4, c4, rfl⟩ := own_slice hown
    obtain ⟨i0, hi0, hz0, hz1, hz2⟩ := info_parts infoS
    clear hl hlg hTe hfit hown hf e1
    by_cases h34 : l.head? = some 34
    · have hpos : 0 < s1.size := by
        rw [← hll]
        exact List.length_pos_iff.2 (by rintro rfl; cases h34)
      have hh : s1.data.toList.head? = some s1[0] := by
        rw [List.head?_eq_getElem?, List.getElem?_eq_getElem (by rw [bytes_len]; exact hpos)]
        rfl
      have e2 : ((s1[0].toNat : Int) == 34) = true := by
        have : s1[0] = 34 := by rw [HL.out, h34] at hh; simpa using hh.symm
        rw [this]
        rfl
      have hp2 : (0 : Int) < (s1.size : Int) := by omega
      have HU := Lib.hid (rUnquote_any s1 wr (by omega))
      rw [HL.out] at HU
      have hfd : fieldD l = quotedD l := by rw [fieldD, if_pos h34]
      rcases hq : quotedD l with k | ⟨v, r⟩
      · rw [hq] at HU hfd
        have HK := Lib.hid (quoted_kind hq)
        have HFN := Lib.hid (head_err (f := f1) hfd)
        clear hfd hq hh h34
        have hfin : ∀ w' : World, Fr w w' (fun _ => False) → FldL T w (.returned (.tuple #[.slice none 0 0, .int .i64 k])) w' := fun w' h => by
          rw [HTE.out, HFN.out]
          exact ⟨h, rfl⟩
        have HFX := Lib.hid hfin
        have hk0 : (k != 0) = true := by rcases HK.out with rfl | rfl <;> rfl
        clear hfin
        go_wp2_with fail
        refine HU.out.mono ?_
        rintro e w3 ⟨hf3, rfl⟩
        have HF3 := Lib.hid hf3
        clear hf3
        go_wp2_with fail
        go_ret2
        exact HFX.out _ (ff HF.out HF3.out)
      · rw [hq] at HU hfd
        have hlt := (field_lt hfd).1
        have hdrop : r = l.drop (l.length - r.length) := by
          obtain ⟨n, hn⟩ := (field_lt hfd).2
          have h2 := congrArg List.length hn
          rw [List.length_drop] at h2
          by_cases hn' : n ≤ l.length
          · conv => lhs; rw [hn]
            congr 1
            omega
          · have hr0 : r = [] := List.length_eq_zero_iff.1 (by omega)
            rw [hr0]
            simp
        obtain ⟨q, hq2⟩ : ∃ q, s1.size - r.length = q := ⟨_, rfl⟩
        have HR2 := Lib.hid (show s1.data.toList.drop q = r by rw [HL.out]; conv => rhs; rw [hdrop, hll, hq2])
        have hU2 : Calls Try.prog 7 #[.string s1] wr fun e w' => Fr wr w' (fun _ => False) ∧ e = .returned (.tuple #[strV v, .int .i64 (q : Int), .int .i64 0]) := by
          rw [← hq2]
          exact HU.out
        have HU := Lib.hid hU2
        have hq1 : (q : Int) ≤ (s1.size : Int) := by omega
        have hq0 : (0 : Int) ≤ (q : Int) := by omega
        have HFD := Lib.hid hfd
        have HQ2 := Lib.hid hq2
        clear hq hfd hdrop hU2 hq2 hh h34
        go_wp2_with fail
        refine HU.out.mono ?_
        rintro e w3 ⟨hf3, rfl⟩
        have HF3 := Lib.hid (ff HF.out hf3)
        have HO3 := Lib.hid ((hf3.own HO.out (fun _ _ h => h)).alloc (.cells #[strV v] 9))
        have hsz3 := HF3.out.size
        clear hf3
        have hrs : s1.size - q = r.length := by
          have := congrArg List.length HR2.out
          rw [List.length_drop, bytes_len] at this
          exact this
        have hss : (s1.extract q s1.size).size = s1.size - q := by
          have := rest_str HR2.out
          rw [this, hrs]
          show r.toArray.size = _
          simp
        have HSS := Lib.hid hss
        have HRL := Lib.hid (show (s1.extract q s1.size).data.toList = r by rw [rest_str HR2.out])
        have HRS := Lib.hid hrs
        clear hss
        cases r with
        | nil =>
          have HLA := Lib.hid (head_last (f := f1) HFD.out)
          have hrs0 : (((s1.size - q : Nat) : Int) == 0) = true := beq_iff_eq.2 (by simp at hrs; omega)
          clear hrs
          go_wp2_with (at_builtin; refine wpList_append_rd _ rfl (.tmp 29) (.tmp 31) 28 rfl w.heap.size 9 i0 _ 1 16 Try.underlying28 hi0 hz0 hz1 hz2 rfl (by decide) _ _ _ rfl HO3.out _ 1 1 [strV v] rfl (rd_new w3 9 (0, 0) [strV v]) (by intro u hu; simp at hu; subst hu; rfl) (by simp only [maxLen]; omega) (by omega) (by simp; omega) ?_; intro v6 w6 hown6 hg6 _)
          have hfw6 : Fr w w6 (fun _ => False) := (ff HF3.out (Fr.new w3 _ _)).fresh (Fr.ofGrown hg6) (fun i e => (HO3.out.lt i e.symm).1)
          have HFW6 := Lib.hid hfw6
          have HO6 := Lib.hid (show w6.ownsRow w.heap.size 9 1 v6 (acc ++ [v]).length ((acc ++ [v]).map strV) by simpa using hown6)
          clear hfw6 hown6 hg6
          go_ret2
          rw [HTE.out, HLA.out]
          exact ⟨HFW6.out, _, rfl, HO6.out⟩
        | cons c r2 =>
          obtain ⟨hc0, hcc, hcd⟩ := drop_cons (s := s1.extract q s1.size) (a := 0) (by rw [HRL.out]; rfl)
          have hlr : r2.length + 1 = s1.size - q := by rw [hrs]; simp
          have hrs0 : (((s1.size - q : Nat) : Int) == 0) = false := beq_eq_false_iff_ne.2 (by omega)
          have hrs1 : 0 < s1.size - q := by omega
          have HCD := Lib.hid hcd
          clear hcd hrs
          by_cases h32 : c = 32
          · subst h32
            obtain ⟨f2, hhn, hfit2⟩ := head_next HFI.out HFD.out
            have HHN := Lib.hid hhn
            have HFI2 := Lib.hid hfit2
            have e32 : (((s1.extract q s1.size)[0].toNat : Int) != 32) = false := by rw [hcc]; rfl
            have hs1' : (1 : Int) ≤ ((s1.size - q : Nat) : Int) := by omega
            have hlt2 : r2.length + 2 ≤ l.length := by simp at hlt; omega
            have HLR := Lib.hid hlr
            clear hhn hfit2 hcc hlt hlr
            go_wp2_with (at_builtin; refine wpList_append_rd _ rfl (.tmp 29) (.tmp 31) 28 rfl w.heap.size 9 i0 _ 1 16 Try.underlying28 hi0 hz0 hz1 hz2 rfl (by decide) _ _ _ rfl HO3.out _ 1 1 [strV v] rfl (rd_new w3 9 (0, 0) [strV v]) (by intro u hu; simp at hu; subst hu; rfl) (by simp only [maxLen]; omega) (by omega) (by simp; omega) ?_; intro v6 w6 hown6 hg6 _)
            have hfw6 : Fr w w6 (fun _ => False) := (ff HF3.out (Fr.new w3 _ _)).fresh (Fr.ofGrown hg6) (fun i e => (HO3.out.lt i e.symm).1)
            have HFW6 := Lib.hid hfw6
            have HO6 := Lib.hid (show w6.ownsRow w.heap.size 9 1 v6 (acc ++ [v]).length ((acc ++ [v]).map strV) by simpa using hown6)
            clear hfw6 hown6 hg6
            go_roundg (gk - 1)
            case measure => have := HLG.out; omega
            case rel => exact ⟨_, acc ++ [v], r2, f2, rfl, by have := rest_str HCD.out; rw [HSS.out] at this; rw [this], by have := HLG.out; omega, by rw [HTE.out, HHN.out, glue_cons], HFI2.out, HO6.out, by simp; omega, HFW6.out⟩
          · have HBAD := Lib.hid (head_bad HFI.out HFD.out (by simp) (by simpa using h32))
            have e32 : (((s1.extract q s1.size)[0].toNat : Int) != 32) = true := by
              have : (((s1.extract q s1.size)[0].toNat : Int) == 32) = false := toNat_ne (k := 32) (by rw [hcc]; exact h32) rfl
              simp [bne, this]
            clear hcc h32 hlr
            go_wp2_with (at_builtin; refine wpList_append_rd _ rfl (.tmp 29) (.tmp 31) 28 rfl w.heap.size 9 i0 _ 1 16 Try.underlying28 hi0 hz0 hz1 hz2 rfl (by decide) _ _ _ rfl HO3.out _ 1 1 [strV v] rfl (rd_new w3 9 (0, 0) [strV v]) (by intro u hu; simp at hu; subst hu; rfl) (by simp only [maxLen]; omega) (by omega) (by simp; omega) ?_; intro v6 w6 hown6 hg6 _)
            have hfw6 : Fr w w6 (fun _ => False) := (ff HF3.out (Fr.new w3 _ _)).fresh (Fr.ofGrown hg6) (fun i e => (HO3.out.lt i e.symm).1)
            have HFW6 := Lib.hid hfw6
            have HO6 := Lib.hid (show w6.ownsRow w.heap.size 9 1 v6 (acc ++ [v]).length ((acc ++ [v]).map strV) by simpa using hown6)
            clear hfw6 hown6 hg6
            go_ret2
            rw [HTE.out, HBAD.out]
            exact ⟨HFW6.out, rfl⟩
    · have HIN := Lib.hid (fun k => plain_state (l := l) (k := k))
      have hpl : (l.takeWhile plainB).length ≤ l.length := by have := congrArg List.length (List.takeWhile_append_dropWhile (p := plainB) (l := l)); rw [List.length_append] at this; omega
      have HTW := Lib.hid (take_while l)
      have hfd : fieldD l = plainD l := by rw [fieldD, if_neg h34]
      have HFD0 := Lib.hid hfd
      obtain ⟨p, hp⟩ : ∃ p, (l.takeWhile plainB).length = p := ⟨_, rfl⟩
      rw [hp] at HIN hpl HTW
      have HP := Lib.hid hp
      have h34a : Hid (∃ x : Bool, (x = true ∧ ∃ h : 0 < s1.size, ((s1[0].toNat : Int) == 34) = false) ∨ (x = false ∧ s1.size = 0)) := by
        by_cases hpos : 0 < s1.size
        · refine Lib.hid ⟨true, .inl ⟨rfl, hpos, toNat_ne (k := 34) ?_ rfl⟩⟩
          intro e
          have hh : s1.data.toList.head? = some s1[0] := by
            rw [List.head?_eq_getElem?, List.getElem?_eq_getElem (by rw [bytes_len]; exact hpos)]
            rfl
          rw [HL.out, e] at hh
          exact h34 hh
        · exact Lib.hid ⟨false, .inr ⟨rfl, by omega⟩⟩
      clear hp hfd h34
      obtain ⟨x, hx⟩ := h34a.out
      rcases hx with ⟨rfl, hpos, e2⟩ | ⟨rfl, hz1'⟩
      · clear h34a
        have hp2 : (0 : Int) < (s1.size : Int) := by omega
        go_wp2_with fail
        go_loop [8] (fun v8 => ∃ k : Nat, k ≤ p ∧ v8 = .int .i64 (k : Int)) (fun v8 => p - (intOf v8).toNat)
        case atStart => exact ⟨0, Nat.zero_le _, rfl⟩
        case round =>
          obtain ⟨k, hk, rfl⟩ := hrel
          have hst := HIN.out k hk
          rcases hst with ⟨hkp, c, r, hcr, hpc⟩ | ⟨hke, hrest⟩
          · obtain ⟨hks, hkc, -⟩ := drop_cons (s := s1) (a := k) (by rw [HL.out]; exact hcr)
            have hpi := (plainB_int s1[k] _ rfl).1 (by rw [hkc]; exact hpc)
            obtain ⟨p1, p2⟩ := hpi
            clear hcr hkc hpc
            go_wp2_with fail
            go_round
            case rel => exact ⟨k + 1, by omega, by go_num⟩
            case measure => simp [intOf]; omega
          · subst hke
            have HREST := Lib.hid hrest
            clear hrest
            have hway : s1.size ≤ k ∨ (∃ h : k < s1.size, (s1[k].toNat : Int) ≤ 32) ∨ (∃ h : k < s1.size, (32 : Int) < (s1[k].toNat : Int) ∧ (126 : Int) < (s1[k].toNat : Int)) := by
              rcases HREST.out with h | ⟨c, r, hcr, hpc⟩
              · left
                have := congrArg List.length h
                rw [List.length_drop] at this
                simp at this
                omega
              · right
                obtain ⟨hks, hkc, -⟩ := drop_cons (s := s1) (a := k) (by rw [HL.out]; exact hcr)
                have hnp : ¬ (32 < (s1[k].toNat : Int) ∧ (s1[k].toNat : Int) ≤ 126) := fun e => by
                  have := (plainB_int s1[k] _ rfl).2 e
                  rw [hkc, hpc] at this
                  cases this
                by_cases p1 : (s1[k].toNat : Int) ≤ 32
                · exact .inl ⟨hks, p1⟩
                · exact .inr ⟨hks, by omega, by omega⟩
            have HWAY := Lib.hid hway
            clear hway HREST
            by_cases hp0 : k = 0
            · have HFX := Lib.hid (show T = .err 3 by
                rw [HTE.out, head_err (k := 3)]
                · rfl
                · rw [HFD0.out, plainD, if_pos (List.length_eq_zero_iff.1 (by rw [HP.out]; exact hp0))])
              have hk0 : ((k : Int) == 0) = true := beq_iff_eq.2 (by omega)
              clear hp0
              rcases HWAY.out with h | ⟨h, p1⟩ | ⟨h, p1, p2⟩
              all_goals
                go_wp2_with fail
                go_ret2
                rw [HFX.out]
                exact ⟨HF.out, rfl⟩
            · have hfd : fieldD l = .got (l.takeWhile plainB) (l.dropWhile plainB) := by
                rw [HFD0.out, plainD, if_neg (fun h => hp0 (by rw [← HP.out, h]; rfl))]
              have hlt := (field_lt hfd).1
              have hk0 : ((k : Int) == 0) = false := beq_eq_false_iff_ne.2 (by omega)
              have HFD := Lib.hid hfd
              have HR2 := Lib.hid (show s1.data.toList.drop k = l.dropWhile plainB by rw [HL.out, HTW.out.2])
              have hex : s1.extract 0 k = ⟨(l.takeWhile plainB).toArray⟩ := by
                have := extract_str s1 0 k
                rw [Nat.zero_add] at this
                rw [this, HL.out, List.drop_zero, HTW.out.1]
              have hq1 : (k : Int) ≤ (s1.size : Int) := by omega
              have hq0 : (0 : Int) ≤ (k : Int) := by omega
              have HO3 := Lib.hid (HO.out.alloc (.cells #[.string (s1.extract 0 k)] 9))
              have HF3 := Lib.hid HF.out
              have hpk : (l.takeWhile plainB).length = k := HP.out
              generalize l.takeWhile plainB = v at HFD hex hlt HO3 HTW HP hfd hpk
              generalize l.dropWhile plainB = r at HFD HR2 hlt hfd HTW
              have HEX := Lib.hid hex
              have HHK := Lib.hid hpk
              clear hfd hp0 hpk HP HTW HIN hex
              rcases HWAY.out with h | ⟨h, p1⟩ | ⟨h, p1, p2⟩
              all_goals
                have hrs : s1.size - k = r.length := by
                  have := congrArg List.length HR2.out
                  rw [List.length_drop, bytes_len] at this
                  exact this
                have hss : (s1.extract k s1.size).size = s1.size - k := by
                  have := rest_str HR2.out
                  rw [this, hrs]
                  show r.toArray.size = _
                  simp
                have HSS := Lib.hid hss
                have HRL := Lib.hid (show (s1.extract k s1.size).data.toList = r by rw [rest_str HR2.out])
                have HRS := Lib.hid hrs
                clear hss
                cases r with
                | nil =>
                  have HLA := Lib.hid (head_last (f := f1) HFD.out)
                  have hrs0 : (((s1.size - k : Nat) : Int) == 0) = true := beq_iff_eq.2 (by simp at hrs; omega)
                  clear hrs
                  go_wp2_with (at_builtin; refine wpList_append_rd _ rfl (.tmp 56) (.tmp 60) 28 rfl w.heap.size 9 i0 _ 1 16 Try.underlying28 hi0 hz0 hz1 hz2 rfl (by decide) _ _ _ rfl HO3.out _ 1 1 [.string (s1.extract 0 k)] rfl (rd_new wr 9 (0, 0) [.string (s1.extract 0 k)]) (by intro u hu; simp at hu; subst hu; rfl) (by simp only [maxLen]; omega) (by omega) (by simp; omega) ?_; intro v6 w6 hown6 hg6 _)
                  all_goals
                    have hfw6 : Fr w w6 (fun _ => False) := (ff HF3.out (Fr.new wr _ _)).fresh (Fr.ofGrown hg6) (fun i e => (HO3.out.lt i e.symm).1)
                    have HFW6 := Lib.hid hfw6
                    have HO6 := Lib.hid (show w6.ownsRow w.heap.size 9 1 v6 (acc ++ [v]).length ((acc ++ [v]).map strV) by rw [HEX.out] at hown6; simpa using hown6)
                    clear hfw6 hown6 hg6
                    go_ret2
                    rw [HTE.out, HLA.out]
                    exact ⟨HFW6.out, _, rfl, HO6.out⟩
                | cons c r2 =>
                  obtain ⟨hc0, hcc, hcd⟩ := drop_cons (s := s1.extract k s1.size) (a := 0) (by rw [HRL.out]; rfl)
                  have hlr : r2.length + 1 = s1.size - k := by rw [hrs]; simp
                  have hrs0 : (((s1.size - k : Nat) : Int) == 0) = false := beq_eq_false_iff_ne.2 (by omega)
                  have hrs1 : 0 < s1.size - k := by omega
                  have HCD := Lib.hid hcd
                  clear hcd hrs
                  by_cases h32 : c = 32
                  · subst h32
                    obtain ⟨f2, hhn, hfit2⟩ := head_next HFI.out HFD.out
                    have HHN := Lib.hid hhn
                    have HFI2 := Lib.hid hfit2
                    have e32 : (((s1.extract k s1.size)[0].toNat : Int) != 32) = false := by rw [hcc]; rfl
                    have hs1' : (1 : Int) ≤ ((s1.size - k : Nat) : Int) := by omega
                    have hlt2 : r2.length + 2 ≤ l.length := by simp at hlt; omega
                    have HLR := Lib.hid hlr
                    clear hhn hfit2 hcc hlt hlr
                    go_wp2_with (at_builtin; refine wpList_append_rd _ rfl (.tmp 56) (.tmp 60) 28 rfl w.heap.size 9 i0 _ 1 16 Try.underlying28 hi0 hz0 hz1 hz2 rfl (by decide) _ _ _ rfl HO3.out _ 1 1 [.string (s1.extract 0 k)] rfl (rd_new wr 9 (0, 0) [.string (s1.extract 0 k)]) (by intro u hu; simp at hu; subst hu; rfl) (by simp only [maxLen]; omega) (by omega) (by simp; omega) ?_; intro v6 w6 hown6 hg6 _)
                    all_goals
                      have hfw6 : Fr w w6 (fun _ => False) := (ff HF3.out (Fr.new wr _ _)).fresh (Fr.ofGrown hg6) (fun i e => (HO3.out.lt i e.symm).1)
                      have HFW6 := Lib.hid hfw6
                      have HO6 := Lib.hid (show w6.ownsRow w.heap.size 9 1 v6 (acc ++ [v]).length ((acc ++ [v]).map strV) by rw [HEX.out] at hown6; simpa using hown6)
                      clear hfw6 hown6 hg6
                      go_roundg (gk - 1)
                      case measure => have := HLG.out; omega
                      case rel => exact ⟨_, acc ++ [v], r2, f2, rfl, by have := rest_str HCD.out; rw [HSS.out] at this; rw [this], by have := HLG.out; omega, by rw [HTE.out, HHN.out, glue_cons], HFI2.out, HO6.out, by simp; omega, HFW6.out⟩
                  · have HBAD := Lib.hid (head_bad HFI.out HFD.out (by simp) (by simpa using h32))
                    have e32 : (((s1.extract k s1.size)[0].toNat : Int) != 32) = true := by
                      have : (((s1.extract k s1.size)[0].toNat : Int) == 32) = false := toNat_ne (k := 32) (by rw [hcc]; exact h32) rfl
                      simp [bne, this]
                    clear hcc h32 hlr
                    go_wp2_with (at_builtin; refine wpList_append_rd _ rfl (.tmp 56) (.tmp 60) 28 rfl w.heap.size 9 i0 _ 1 16 Try.underlying28 hi0 hz0 hz1 hz2 rfl (by decide) _ _ _ rfl HO3.out _ 1 1 [.string (s1.extract 0 k)] rfl (rd_new wr 9 (0, 0) [.string (s1.extract 0 k)]) (by intro u hu; simp at hu; subst hu; rfl) (by simp only [maxLen]; omega) (by omega) (by simp; omega) ?_; intro v6 w6 hown6 hg6 _)
                    all_goals
                      have hfw6 : Fr w w6 (fun _ => False) := (ff HF3.out (Fr.new wr _ _)).fresh (Fr.ofGrown hg6) (fun i e => (HO3.out.lt i e.symm).1)
                      have HFW6 := Lib.hid hfw6
                      have HO6 := Lib.hid (show w6.ownsRow w.heap.size 9 1 v6 (acc ++ [v]).length ((acc ++ [v]).map strV) by rw [HEX.out] at hown6; simpa using hown6)
                      clear hfw6 hown6 hg6
                      go_ret2
                      rw [HTE.out, HBAD.out]
                      exact ⟨HFW6.out, rfl⟩
      · have hl0 : l = [] := List.length_eq_zero_iff.1 (by omega)
        have HFX := Lib.hid (show T = .err 3 by
          rw [HTE.out, head_err (k := 3)]
          · rfl
          · rw [HFD0.out, hl0]; rfl)
        clear h34a hl0 HIN HTW
        go_wp2_with fail
        go_loop [8] (fun v8 => v8 = .int .i64 0) (fun v8 => 0)
        case atStart => rfl
        case round =>
          obtain rfl := hrel
          go_wp2_with fail
          go_ret2
          rw [HFX.out]
          exact ⟨HF.out, rfl⟩
theorem rFields_any (s : ByteArray) (w : World) (hz : s.size ≤ 999990) : Calls Try.prog 12 #[.string s] w (FldL (fieldsD s.data.toList) w) := by
  by_cases h0 : 0 < s.size
  · exact rFields_some s w hz h0
  · exact rFields_nil s w (by omega)
end Go.Proofs.Ytbolgodoifbnnaa
