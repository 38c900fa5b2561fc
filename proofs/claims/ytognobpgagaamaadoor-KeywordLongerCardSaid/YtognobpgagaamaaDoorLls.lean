import Derived.Test.YtognobpgagaamaaDoorLlo
namespace Go.Proofs.YtognobpgagaamaaDoor
open Go.RowKit Go.Mem Go.Kwd Go.Esc

set_option maxRecDepth 100000 in
theorem longer_as0 (m : Int) (k nn : Nat) (w : World) (hw : WOk w) (hm : m = (k : Int) + 1) (hk : k < 12) (hn : 1 ≤ nn) (hn9 : nn ≤ 9) (x : Kwd.Bs) (hx : (w.alloc (.cells #[.string ⟨#[106, 97, 110, 117, 97, 114, 121]⟩, .string ⟨#[102, 101, 98, 114, 117, 97, 114, 121]⟩, .string ⟨#[109, 97, 114, 99, 104]⟩, .string ⟨#[97, 112, 114, 105, 108]⟩, .string ⟨#[109, 97, 121]⟩, .string ⟨#[106, 117, 110, 101]⟩, .string ⟨#[106, 117, 108, 121]⟩, .string ⟨#[97, 117, 103, 117, 115, 116]⟩, .string ⟨#[115, 101, 112, 116, 101, 109, 98, 101, 114]⟩, .string ⟨#[111, 99, 116, 111, 98, 101, 114]⟩, .string ⟨#[110, 111, 118, 101, 109, 98, 101, 114]⟩, .string ⟨#[100, 101, 99, 101, 109, 98, 101, 114]⟩] 9)).cell? ⟨w.heap.size, k, none⟩ = some (strV x)) (hrel : nn ≤ x.length)
    (hl3 : 3 ≤ x.length) (hl9 : x.length ≤ 9) (hwhole : monthD x = k + 1) (hthree : monthD (x.take 3) = k + 1) (hshow : monthD (showMonthD ((k : Int) + 1)) = k + 1)
    (hout : monthD (x.take nn) = 0) : Calls Tryd.prog 6 #[.int .i64 m, .int .i64 (nn : Int), .bool false] w fun e w' => e = .returned (.bool true) ∧ Fr w w' (fun _ => False) := by
  have HFA := Lib.hid (Fr.new w (.cells #[.string ⟨#[106, 97, 110, 117, 97, 114, 121]⟩, .string ⟨#[102, 101, 98, 114, 117, 97, 114, 121]⟩, .string ⟨#[109, 97, 114, 99, 104]⟩, .string ⟨#[97, 112, 114, 105, 108]⟩, .string ⟨#[109, 97, 121]⟩, .string ⟨#[106, 117, 110, 101]⟩, .string ⟨#[106, 117, 108, 121]⟩, .string ⟨#[97, 117, 103, 117, 115, 116]⟩, .string ⟨#[115, 101, 112, 116, 101, 109, 98, 101, 114]⟩, .string ⟨#[111, 99, 116, 111, 98, 101, 114]⟩, .string ⟨#[110, 111, 118, 101, 109, 98, 101, 114]⟩, .string ⟨#[100, 101, 99, 101, 109, 98, 101, 114]⟩] 9) (fun _ => False))
  have hk1 : ((k + 1 : Nat) : Int) = m := by omega
  have M : ∀ (t : Kwd.Bs) (W : World), t.length ≤ 1000000 → monthD t = k + 1 → Calls Tryd.prog 12 #[strV t] W fun e w' => e = .returned (.int .i64 m) ∧ Fr W w' (fun _ => False) := fun t W ht h => by
    have := Month_any t W ht _ h
    rw [hk1] at this
    exact this
  have C1 := Lib.hid (fun (W : World) => Month_any (x.take nn) W ((by rw [List.length_take]; omega)) _ hout)
  obtain ⟨yy, hyy⟩ : ∃ yy, monthD (x.take (nn + 1)) = yy := ⟨_, rfl⟩
  have C2 := Lib.hid (fun (W : World) => Month_any (x.take (nn + 1)) W (by simp; omega) _ hyy)
  clear hyy
  have C3 := Lib.hid (fun (W : World) => M x W (by omega) hwhole)
  have C4 := Lib.hid (fun (W : World) => M (x.take 3) W (by rw [List.length_take]; omega) hthree)
  have C5 := Lib.hid (fun (W : World) => ShowMonth_any m W)
  rw [← hm] at hshow
  obtain ⟨sh, hsh⟩ : ∃ sh, showMonthD m = sh := ⟨_, rfl⟩
  rw [hsh] at C5 hshow
  have hshl : sh.length ≤ 1000000 := by
    have : ∀ j : Fin 12, (showMonthD ((j.val : Int) + 1)).length ≤ 1000000 := by decide +kernel
    have := this ⟨k, hk⟩
    rw [← hm, hsh] at this
    exact this
  have C6 := Lib.hid (fun (W : World) => M sh W hshl hshow)
  have C7 := Lib.hid (fun (W : World) (f : Fr w W (fun _ => False)) => alive_any W (hw.fr f))
  have hsz := str_size x
  obtain ⟨X, hX⟩ : ∃ X : ByteArray, X = ⟨x.toArray⟩ := ⟨_, rfl⟩
  rw [show strV (x.take 3) = .string (X.extract 0 (min 3 (X.size : Int)).toNat) by rw [hX, show (min 3 ((⟨x.toArray⟩ : ByteArray).size : Int)).toNat = 3 by rw [str_size]; omega, ext_take]] at C4
  rw [← hX] at hsz
  rw [show strV (x.take nn) = .string (X.extract 0 nn) by rw [hX, ext_take]] at C1
  rw [show strV (x.take (nn + 1)) = .string (X.extract 0 (min ((nn : Int) + 1) (X.size : Int)).toNat) by rw [hX, ← take_min]] at C2
  have HF0 := HFA
  rw [show strV x = .string X by rw [hX]] at hx C3
  have hmk : m - 1 = (k : Int) := by omega
  have m1 : (1 : Int) ≤ m := by omega
  have m2 : m ≤ 12 := by omega
  have n1 : (1 : Int) ≤ (nn : Int) := by omega
  have n2 : (nn : Int) ≤ 9 := by omega
  have x3 : (3 : Int) ≤ (X.size : Int) := by omega
  have em : (m == 0) = false := beq_eq_false_iff_ne.2 (by omega)
  have l1 : (nn : Int) ≤ (X.size : Int) := by omega
  clear M hw hm hk1 hX hout hwhole hthree hshow hsh hshl hrel hsz hl3 hl9 hn hn9 hk 
  go_enter Tryd.func6, Tryd.ntmps6
  go_wp2_with fail
  refine (C1.out _).mono ?_
  rintro e w1 ⟨rfl, hf⟩
  have HF1 := Lib.hid (ff HF0.out hf)
  clear hf
  go_wp2_with fail
  refine (C2.out _).mono ?_
  rintro e w2 ⟨rfl, hf⟩
  have HF2 := Lib.hid (ff HF1.out hf)
  clear hf
  go_wp2_with fail
  refine (C3.out _).mono ?_
  rintro e w3 ⟨rfl, hf⟩
  have HF3 := Lib.hid (ff HF2.out hf)
  clear hf
  go_wp2_with fail
  refine (C4.out _).mono ?_
  rintro e w4 ⟨rfl, hf⟩
  have HF4 := Lib.hid (ff HF3.out hf)
  clear hf
  go_wp2_with fail
  refine (C5.out _).mono ?_
  rintro e w5 ⟨rfl, hf⟩
  have HF5 := Lib.hid (ff HF4.out hf)
  clear hf
  go_wp2_with fail
  refine (C6.out _).mono ?_
  rintro e w6 ⟨rfl, hf⟩
  have HF6 := Lib.hid (ff HF5.out hf)
  clear hf
  go_wp2_with fail
  refine (C7.out _ HF6.out).mono ?_
  rintro e w7 ⟨rfl, hf⟩
  have HF7 := Lib.hid (ff HF6.out hf)
  clear hf
  go_wp2_with fail
  go_ret
  exact ⟨rfl, HF7.out⟩
set_option maxRecDepth 100000 in
theorem longer_as1 (m : Int) (k nn : Nat) (w : World) (hw : WOk w) (hm : m = (k : Int) + 1) (hk : k < 12) (hn : 1 ≤ nn) (hn9 : nn ≤ 9) (x : Kwd.Bs) (hx : (w.alloc (.cells #[.string ⟨#[106, 97, 110, 117, 97, 114, 121]⟩, .string ⟨#[102, 101, 98, 114, 117, 97, 114, 121]⟩, .string ⟨#[109, 97, 114, 99, 104]⟩, .string ⟨#[97, 112, 114, 105, 108]⟩, .string ⟨#[109, 97, 121]⟩, .string ⟨#[106, 117, 110, 101]⟩, .string ⟨#[106, 117, 108, 121]⟩, .string ⟨#[97, 117, 103, 117, 115, 116]⟩, .string ⟨#[115, 101, 112, 116, 101, 109, 98, 101, 114]⟩, .string ⟨#[111, 99, 116, 111, 98, 101, 114]⟩, .string ⟨#[110, 111, 118, 101, 109, 98, 101, 114]⟩, .string ⟨#[100, 101, 99, 101, 109, 98, 101, 114]⟩] 9)).cell? ⟨w.heap.size, k, none⟩ = some (strV x)) (hrel : nn ≤ x.length)
    (hl3 : 3 ≤ x.length) (hl9 : x.length ≤ 9) (hwhole : monthD x = k + 1) (hthree : monthD (x.take 3) = k + 1) (hshow : monthD (showMonthD ((k : Int) + 1)) = k + 1)
    (hout : monthD (x.take nn) = k + 1) (hnext : monthD (x.take (nn + 1)) = k + 1) : Calls Tryd.prog 6 #[.int .i64 m, .int .i64 (nn : Int), .bool false] w fun e w' => e = .returned (.bool true) ∧ Fr w w' (fun _ => False) := by
  have HFA := Lib.hid (Fr.new w (.cells #[.string ⟨#[106, 97, 110, 117, 97, 114, 121]⟩, .string ⟨#[102, 101, 98, 114, 117, 97, 114, 121]⟩, .string ⟨#[109, 97, 114, 99, 104]⟩, .string ⟨#[97, 112, 114, 105, 108]⟩, .string ⟨#[109, 97, 121]⟩, .string ⟨#[106, 117, 110, 101]⟩, .string ⟨#[106, 117, 108, 121]⟩, .string ⟨#[97, 117, 103, 117, 115, 116]⟩, .string ⟨#[115, 101, 112, 116, 101, 109, 98, 101, 114]⟩, .string ⟨#[111, 99, 116, 111, 98, 101, 114]⟩, .string ⟨#[110, 111, 118, 101, 109, 98, 101, 114]⟩, .string ⟨#[100, 101, 99, 101, 109, 98, 101, 114]⟩] 9) (fun _ => False))
  have hk1 : ((k + 1 : Nat) : Int) = m := by omega
  have M : ∀ (t : Kwd.Bs) (W : World), t.length ≤ 1000000 → monthD t = k + 1 → Calls Tryd.prog 12 #[strV t] W fun e w' => e = .returned (.int .i64 m) ∧ Fr W w' (fun _ => False) := fun t W ht h => by
    have := Month_any t W ht _ h
    rw [hk1] at this
    exact this
  have C1 := Lib.hid (fun (W : World) => M (x.take nn) W (by rw [List.length_take]; omega) hout)
  have C2 := Lib.hid (fun (W : World) => M (x.take (nn + 1)) W (by simp; omega) hnext)
  have C3 := Lib.hid (fun (W : World) => M x W (by omega) hwhole)
  have C4 := Lib.hid (fun (W : World) => M (x.take 3) W (by rw [List.length_take]; omega) hthree)
  have C5 := Lib.hid (fun (W : World) => ShowMonth_any m W)
  rw [← hm] at hshow
  obtain ⟨sh, hsh⟩ : ∃ sh, showMonthD m = sh := ⟨_, rfl⟩
  rw [hsh] at C5 hshow
  have hshl : sh.length ≤ 1000000 := by
    have : ∀ j : Fin 12, (showMonthD ((j.val : Int) + 1)).length ≤ 1000000 := by decide +kernel
    have := this ⟨k, hk⟩
    rw [← hm, hsh] at this
    exact this
  have C6 := Lib.hid (fun (W : World) => M sh W hshl hshow)
  have C7 := Lib.hid (fun (W : World) (f : Fr w W (fun _ => False)) => alive_any W (hw.fr f))
  have hsz := str_size x
  obtain ⟨X, hX⟩ : ∃ X : ByteArray, X = ⟨x.toArray⟩ := ⟨_, rfl⟩
  rw [show strV (x.take 3) = .string (X.extract 0 (min 3 (X.size : Int)).toNat) by rw [hX, show (min 3 ((⟨x.toArray⟩ : ByteArray).size : Int)).toNat = 3 by rw [str_size]; omega, ext_take]] at C4
  rw [← hX] at hsz
  rw [show strV (x.take nn) = .string (X.extract 0 nn) by rw [hX, ext_take]] at C1
  rw [show strV (x.take (nn + 1)) = .string (X.extract 0 (min ((nn : Int) + 1) (X.size : Int)).toNat) by rw [hX, ← take_min]] at C2
  have HF0 := HFA
  rw [show strV x = .string X by rw [hX]] at hx C3
  have hmk : m - 1 = (k : Int) := by omega
  have m1 : (1 : Int) ≤ m := by omega
  have m2 : m ≤ 12 := by omega
  have n1 : (1 : Int) ≤ (nn : Int) := by omega
  have n2 : (nn : Int) ≤ 9 := by omega
  have x3 : (3 : Int) ≤ (X.size : Int) := by omega
  have em : (m == 0) = false := beq_eq_false_iff_ne.2 (by omega)
  have l1 : (nn : Int) ≤ (X.size : Int) := by omega
  clear M hw hm hk1 hX hout hwhole hthree hshow hsh hshl hrel hsz hl3 hl9 hn hn9 hk hnext
  go_enter Tryd.func6, Tryd.ntmps6
  go_wp2_with fail
  refine (C1.out _).mono ?_
  rintro e w1 ⟨rfl, hf⟩
  have HF1 := Lib.hid (ff HF0.out hf)
  clear hf
  go_wp2_with fail
  refine (C2.out _).mono ?_
  rintro e w2 ⟨rfl, hf⟩
  have HF2 := Lib.hid (ff HF1.out hf)
  clear hf
  go_wp2_with fail
  refine (C3.out _).mono ?_
  rintro e w3 ⟨rfl, hf⟩
  have HF3 := Lib.hid (ff HF2.out hf)
  clear hf
  go_wp2_with fail
  refine (C4.out _).mono ?_
  rintro e w4 ⟨rfl, hf⟩
  have HF4 := Lib.hid (ff HF3.out hf)
  clear hf
  go_wp2_with fail
  refine (C5.out _).mono ?_
  rintro e w5 ⟨rfl, hf⟩
  have HF5 := Lib.hid (ff HF4.out hf)
  clear hf
  go_wp2_with fail
  refine (C6.out _).mono ?_
  rintro e w6 ⟨rfl, hf⟩
  have HF6 := Lib.hid (ff HF5.out hf)
  clear hf
  go_wp2_with fail
  refine (C7.out _ HF6.out).mono ?_
  rintro e w7 ⟨rfl, hf⟩
  have HF7 := Lib.hid (ff HF6.out hf)
  clear hf
  go_wp2_with fail
  go_ret
  exact ⟨rfl, HF7.out⟩
set_option maxRecDepth 100000 in
theorem longer_cs0 (m : Int) (k nn : Nat) (w : World) (hw : WOk w) (hm : m = (k : Int) + 1) (hk : k < 12) (hn : 1 ≤ nn) (hn9 : nn ≤ 9) (x : Kwd.Bs) (hx : (w.alloc (.cells #[.string ⟨#[106, 97, 110, 117, 97, 114, 121]⟩, .string ⟨#[102, 101, 98, 114, 117, 97, 114, 121]⟩, .string ⟨#[109, 97, 114, 99, 104]⟩, .string ⟨#[97, 112, 114, 105, 108]⟩, .string ⟨#[109, 97, 121]⟩, .string ⟨#[106, 117, 110, 101]⟩, .string ⟨#[106, 117, 108, 121]⟩, .string ⟨#[97, 117, 103, 117, 115, 116]⟩, .string ⟨#[115, 101, 112, 116, 101, 109, 98, 101, 114]⟩, .string ⟨#[111, 99, 116, 111, 98, 101, 114]⟩, .string ⟨#[110, 111, 118, 101, 109, 98, 101, 114]⟩, .string ⟨#[100, 101, 99, 101, 109, 98, 101, 114]⟩] 9)).cell? ⟨w.heap.size, k, none⟩ = some (strV x)) (hrel : x.length < nn)
    (hl3 : 3 ≤ x.length) (hl9 : x.length ≤ 9) (hwhole : monthD x = k + 1) (hthree : monthD (x.take 3) = k + 1) (hshow : monthD (showMonthD ((k : Int) + 1)) = k + 1)
    (hout : monthD (x.take x.length) = 0) : Calls Tryd.prog 6 #[.int .i64 m, .int .i64 (nn : Int), .bool false] w fun e w' => e = .returned (.bool true) ∧ Fr w w' (fun _ => False) := by
  have HFA := Lib.hid (Fr.new w (.cells #[.string ⟨#[106, 97, 110, 117, 97, 114, 121]⟩, .string ⟨#[102, 101, 98, 114, 117, 97, 114, 121]⟩, .string ⟨#[109, 97, 114, 99, 104]⟩, .string ⟨#[97, 112, 114, 105, 108]⟩, .string ⟨#[109, 97, 121]⟩, .string ⟨#[106, 117, 110, 101]⟩, .string ⟨#[106, 117, 108, 121]⟩, .string ⟨#[97, 117, 103, 117, 115, 116]⟩, .string ⟨#[115, 101, 112, 116, 101, 109, 98, 101, 114]⟩, .string ⟨#[111, 99, 116, 111, 98, 101, 114]⟩, .string ⟨#[110, 111, 118, 101, 109, 98, 101, 114]⟩, .string ⟨#[100, 101, 99, 101, 109, 98, 101, 114]⟩] 9) (fun _ => False))
  have hk1 : ((k + 1 : Nat) : Int) = m := by omega
  have M : ∀ (t : Kwd.Bs) (W : World), t.length ≤ 1000000 → monthD t = k + 1 → Calls Tryd.prog 12 #[strV t] W fun e w' => e = .returned (.int .i64 m) ∧ Fr W w' (fun _ => False) := fun t W ht h => by
    have := Month_any t W ht _ h
    rw [hk1] at this
    exact this
  have C1 := Lib.hid (fun (W : World) => Month_any (x.take x.length) W ((by rw [List.length_take]; omega)) _ hout)
  obtain ⟨yy, hyy⟩ : ∃ yy, monthD (x.take (x.length + 1)) = yy := ⟨_, rfl⟩
  have C2 := Lib.hid (fun (W : World) => Month_any (x.take (x.length + 1)) W (by simp; omega) _ hyy)
  clear hyy
  have C3 := Lib.hid (fun (W : World) => M x W (by omega) hwhole)
  have C4 := Lib.hid (fun (W : World) => M (x.take 3) W (by rw [List.length_take]; omega) hthree)
  have C5 := Lib.hid (fun (W : World) => ShowMonth_any m W)
  rw [← hm] at hshow
  obtain ⟨sh, hsh⟩ : ∃ sh, showMonthD m = sh := ⟨_, rfl⟩
  rw [hsh] at C5 hshow
  have hshl : sh.length ≤ 1000000 := by
    have : ∀ j : Fin 12, (showMonthD ((j.val : Int) + 1)).length ≤ 1000000 := by decide +kernel
    have := this ⟨k, hk⟩
    rw [← hm, hsh] at this
    exact this
  have C6 := Lib.hid (fun (W : World) => M sh W hshl hshow)
  have C7 := Lib.hid (fun (W : World) (f : Fr w W (fun _ => False)) => alive_any W (hw.fr f))
  have hsz := str_size x
  obtain ⟨X, hX⟩ : ∃ X : ByteArray, X = ⟨x.toArray⟩ := ⟨_, rfl⟩
  rw [show strV (x.take 3) = .string (X.extract 0 (min 3 (X.size : Int)).toNat) by rw [hX, show (min 3 ((⟨x.toArray⟩ : ByteArray).size : Int)).toNat = 3 by rw [str_size]; omega, ext_take]] at C4
  rw [← hX] at hsz
  rw [show strV (x.take x.length) = .string X by rw [hX, List.take_length]] at C1
  rw [show strV (x.take (x.length + 1)) = .string (X.extract 0 (min ((X.size : Int) + 1) (X.size : Int)).toNat) by rw [hX, ← take_min]; rw [str_size]] at C2
  have HF0 := HFA
  rw [show strV x = .string X by rw [hX]] at hx C3
  have hmk : m - 1 = (k : Int) := by omega
  have m1 : (1 : Int) ≤ m := by omega
  have m2 : m ≤ 12 := by omega
  have n1 : (1 : Int) ≤ (nn : Int) := by omega
  have n2 : (nn : Int) ≤ 9 := by omega
  have x3 : (3 : Int) ≤ (X.size : Int) := by omega
  have em : (m == 0) = false := beq_eq_false_iff_ne.2 (by omega)
  have l1 : (X.size : Int) < (nn : Int) := by omega
  clear M hw hm hk1 hX hout hwhole hthree hshow hsh hshl hrel hsz hl3 hl9 hn hn9 hk 
  go_enter Tryd.func6, Tryd.ntmps6
  go_wp2_with fail
  refine (C1.out _).mono ?_
  rintro e w1 ⟨rfl, hf⟩
  have HF1 := Lib.hid (ff HF0.out hf)
  clear hf
  go_wp2_with fail
  refine (C2.out _).mono ?_
  rintro e w2 ⟨rfl, hf⟩
  have HF2 := Lib.hid (ff HF1.out hf)
  clear hf
  go_wp2_with fail
  refine (C3.out _).mono ?_
  rintro e w3 ⟨rfl, hf⟩
  have HF3 := Lib.hid (ff HF2.out hf)
  clear hf
  go_wp2_with fail
  refine (C4.out _).mono ?_
  rintro e w4 ⟨rfl, hf⟩
  have HF4 := Lib.hid (ff HF3.out hf)
  clear hf
  go_wp2_with fail
  refine (C5.out _).mono ?_
  rintro e w5 ⟨rfl, hf⟩
  have HF5 := Lib.hid (ff HF4.out hf)
  clear hf
  go_wp2_with fail
  refine (C6.out _).mono ?_
  rintro e w6 ⟨rfl, hf⟩
  have HF6 := Lib.hid (ff HF5.out hf)
  clear hf
  go_wp2_with fail
  refine (C7.out _ HF6.out).mono ?_
  rintro e w7 ⟨rfl, hf⟩
  have HF7 := Lib.hid (ff HF6.out hf)
  clear hf
  go_wp2_with fail
  go_ret
  exact ⟨rfl, HF7.out⟩
set_option maxRecDepth 100000 in
theorem longer_cs1 (m : Int) (k nn : Nat) (w : World) (hw : WOk w) (hm : m = (k : Int) + 1) (hk : k < 12) (hn : 1 ≤ nn) (hn9 : nn ≤ 9) (x : Kwd.Bs) (hx : (w.alloc (.cells #[.string ⟨#[106, 97, 110, 117, 97, 114, 121]⟩, .string ⟨#[102, 101, 98, 114, 117, 97, 114, 121]⟩, .string ⟨#[109, 97, 114, 99, 104]⟩, .string ⟨#[97, 112, 114, 105, 108]⟩, .string ⟨#[109, 97, 121]⟩, .string ⟨#[106, 117, 110, 101]⟩, .string ⟨#[106, 117, 108, 121]⟩, .string ⟨#[97, 117, 103, 117, 115, 116]⟩, .string ⟨#[115, 101, 112, 116, 101, 109, 98, 101, 114]⟩, .string ⟨#[111, 99, 116, 111, 98, 101, 114]⟩, .string ⟨#[110, 111, 118, 101, 109, 98, 101, 114]⟩, .string ⟨#[100, 101, 99, 101, 109, 98, 101, 114]⟩] 9)).cell? ⟨w.heap.size, k, none⟩ = some (strV x)) (hrel : x.length < nn)
    (hl3 : 3 ≤ x.length) (hl9 : x.length ≤ 9) (hwhole : monthD x = k + 1) (hthree : monthD (x.take 3) = k + 1) (hshow : monthD (showMonthD ((k : Int) + 1)) = k + 1)
    (hout : monthD (x.take x.length) = k + 1) (hnext : monthD (x.take (x.length + 1)) = k + 1) : Calls Tryd.prog 6 #[.int .i64 m, .int .i64 (nn : Int), .bool false] w fun e w' => e = .returned (.bool true) ∧ Fr w w' (fun _ => False) := by
  have HFA := Lib.hid (Fr.new w (.cells #[.string ⟨#[106, 97, 110, 117, 97, 114, 121]⟩, .string ⟨#[102, 101, 98, 114, 117, 97, 114, 121]⟩, .string ⟨#[109, 97, 114, 99, 104]⟩, .string ⟨#[97, 112, 114, 105, 108]⟩, .string ⟨#[109, 97, 121]⟩, .string ⟨#[106, 117, 110, 101]⟩, .string ⟨#[106, 117, 108, 121]⟩, .string ⟨#[97, 117, 103, 117, 115, 116]⟩, .string ⟨#[115, 101, 112, 116, 101, 109, 98, 101, 114]⟩, .string ⟨#[111, 99, 116, 111, 98, 101, 114]⟩, .string ⟨#[110, 111, 118, 101, 109, 98, 101, 114]⟩, .string ⟨#[100, 101, 99, 101, 109, 98, 101, 114]⟩] 9) (fun _ => False))
  have hk1 : ((k + 1 : Nat) : Int) = m := by omega
  have M : ∀ (t : Kwd.Bs) (W : World), t.length ≤ 1000000 → monthD t = k + 1 → Calls Tryd.prog 12 #[strV t] W fun e w' => e = .returned (.int .i64 m) ∧ Fr W w' (fun _ => False) := fun t W ht h => by
    have := Month_any t W ht _ h
    rw [hk1] at this
    exact this
  have C1 := Lib.hid (fun (W : World) => M (x.take x.length) W (by rw [List.length_take]; omega) hout)
  have C2 := Lib.hid (fun (W : World) => M (x.take (x.length + 1)) W (by simp; omega) hnext)
  have C3 := Lib.hid (fun (W : World) => M x W (by omega) hwhole)
  have C4 := Lib.hid (fun (W : World) => M (x.take 3) W (by rw [List.length_take]; omega) hthree)
  have C5 := Lib.hid (fun (W : World) => ShowMonth_any m W)
  rw [← hm] at hshow
  obtain ⟨sh, hsh⟩ : ∃ sh, showMonthD m = sh := ⟨_, rfl⟩
  rw [hsh] at C5 hshow
  have hshl : sh.length ≤ 1000000 := by
    have : ∀ j : Fin 12, (showMonthD ((j.val : Int) + 1)).length ≤ 1000000 := by decide +kernel
    have := this ⟨k, hk⟩
    rw [← hm, hsh] at this
    exact this
  have C6 := Lib.hid (fun (W : World) => M sh W hshl hshow)
  have C7 := Lib.hid (fun (W : World) (f : Fr w W (fun _ => False)) => alive_any W (hw.fr f))
  have hsz := str_size x
  obtain ⟨X, hX⟩ : ∃ X : ByteArray, X = ⟨x.toArray⟩ := ⟨_, rfl⟩
  rw [show strV (x.take 3) = .string (X.extract 0 (min 3 (X.size : Int)).toNat) by rw [hX, show (min 3 ((⟨x.toArray⟩ : ByteArray).size : Int)).toNat = 3 by rw [str_size]; omega, ext_take]] at C4
  rw [← hX] at hsz
  rw [show strV (x.take x.length) = .string X by rw [hX, List.take_length]] at C1
  rw [show strV (x.take (x.length + 1)) = .string (X.extract 0 (min ((X.size : Int) + 1) (X.size : Int)).toNat) by rw [hX, ← take_min]; rw [str_size]] at C2
  have HF0 := HFA
  rw [show strV x = .string X by rw [hX]] at hx C3
  have hmk : m - 1 = (k : Int) := by omega
  have m1 : (1 : Int) ≤ m := by omega
  have m2 : m ≤ 12 := by omega
  have n1 : (1 : Int) ≤ (nn : Int) := by omega
  have n2 : (nn : Int) ≤ 9 := by omega
  have x3 : (3 : Int) ≤ (X.size : Int) := by omega
  have em : (m == 0) = false := beq_eq_false_iff_ne.2 (by omega)
  have l1 : (X.size : Int) < (nn : Int) := by omega
  clear M hw hm hk1 hX hout hwhole hthree hshow hsh hshl hrel hsz hl3 hl9 hn hn9 hk hnext
  go_enter Tryd.func6, Tryd.ntmps6
  go_wp2_with fail
  refine (C1.out _).mono ?_
  rintro e w1 ⟨rfl, hf⟩
  have HF1 := Lib.hid (ff HF0.out hf)
  clear hf
  go_wp2_with fail
  refine (C2.out _).mono ?_
  rintro e w2 ⟨rfl, hf⟩
  have HF2 := Lib.hid (ff HF1.out hf)
  clear hf
  go_wp2_with fail
  refine (C3.out _).mono ?_
  rintro e w3 ⟨rfl, hf⟩
  have HF3 := Lib.hid (ff HF2.out hf)
  clear hf
  go_wp2_with fail
  refine (C4.out _).mono ?_
  rintro e w4 ⟨rfl, hf⟩
  have HF4 := Lib.hid (ff HF3.out hf)
  clear hf
  go_wp2_with fail
  refine (C5.out _).mono ?_
  rintro e w5 ⟨rfl, hf⟩
  have HF5 := Lib.hid (ff HF4.out hf)
  clear hf
  go_wp2_with fail
  refine (C6.out _).mono ?_
  rintro e w6 ⟨rfl, hf⟩
  have HF6 := Lib.hid (ff HF5.out hf)
  clear hf
  go_wp2_with fail
  refine (C7.out _ HF6.out).mono ?_
  rintro e w7 ⟨rfl, hf⟩
  have HF7 := Lib.hid (ff HF6.out hf)
  clear hf
  go_wp2_with fail
  go_ret
  exact ⟨rfl, HF7.out⟩
end Go.Proofs.YtognobpgagaamaaDoor
