import Derived.WalkKit
import Derived.Test.YtadneimllbfdnaaGreatDoorRows
import Derived.WalkLawsBesides
import Derived.Outline
import Derived.Deep.QuietTactic
import Derived.BigQuiet
namespace Go.Proofs.YtadneimllbfdnaaGreatDoor.Wo
/-! PLAIN: the words' functions on numbers. n, d: narrowed words; m: 2 to the width; h: half of it. -/
def negM (h n:Int):Bool:=decide (h<=n)
def magM (h m n:Int):Int:=if h<=n then m - n else n
def sgnM (h m n:Int):Int:=if h<=n then 18446744073709551616 - m+n else n
def divM (n d:Int):Int:=if d=0 then 0 else n / d
def modM (n d:Int):Int:=if d=0 then n else n % d
def sdivM (h m n d:Int):Int:=if d=0 then 0 else if negM h n=negM h d then magM h m n / magM h m d else (-(magM h m n / magM h m d)) % m
def smodM (h m n d:Int):Int:=if d=0 then n else if h<=n then (-(magM h m n % magM h m d)) % m else magM h m n % magM h m d
def shlM (m n k:Int):Int:=n*2 ^ k.toNat % m
def shrM (n k:Int):Int:=n / 2 ^ k.toNat
def sarM (h m n k:Int):Int:=if h<=n then m - 1 - (m - 1 - n) / 2 ^ k.toNat else n / 2 ^ k.toNat
def lessM (n d:Int):Bool:=decide (n<d)
def slessM (h m n d:Int):Bool:=decide ((if h<=n then n - m else n)<(if h<=d then d - m else d))
def mW (width:Int):Int:=if width=8 then 256 else if width=16 then 65536 else if width=32 then 4294967296 else 18446744073709551616
def hW (width:Int):Int:=if width=8 then 128 else if width=16 then 32768 else if width=32 then 2147483648 else 9223372036854775808
def bW (width:Int):Int:=if width=8 then 8 else if width=16 then 16 else if width=32 then 32 else 64
def negW (a:Int):Int:=IntKind.u64.wrap (-a)
def sgnW (width a:Int):Int:=sgnM (hW width) (mW width) (a % mW width)
theorem mag_bd {h m n:Int} (hm:m=2*h) (h0:0<=n) (h1:n<m):0<=magM h m n/\magM h m n<=h:=by
 unfold magM;split <;> omega
theorem mag_pos {h m n:Int} (hm:m=2*h) (h0:0<n) (h1:n<m):0<magM h m n:=by
 unfold magM;split <;> omega
theorem div_bd {x y B:Int} (h0:0<=x) (h1:x<=B) (h2:0<y):0<=x / y/\x / y<=B:=by
 have a:=Int.ediv_nonneg h0 (Int.le_of_lt h2)
 have b:=Int.ediv_le_self y h0
 omega
theorem rem_bd {x y:Int} (h2:0<y):0<=x % y/\x % y<y:=⟨Int.emod_nonneg _ (by omega),Int.emod_lt_of_pos _ h2⟩
theorem pow_pos2 (k:Nat):(0:Int)<2 ^ k:=by
 have:=Nat.two_pow_pos k
 have e:((2 ^ k:Nat):Int)=2 ^ k:=by simp
 omega
theorem wide_cases (width:Int):width=8\/width=16\/width=32\/(width ≠ 8/\width ≠ 16/\width ≠ 32):=by omega
theorem W8:mW 8=256/\hW 8=128/\bW 8=8:=⟨rfl,rfl,rfl⟩
theorem W64 {width:Int} (a:width ≠ 8) (b:width ≠ 16) (c:width ≠ 32):mW width=18446744073709551616/\hW width=9223372036854775808/\bW width=64:=by
 simp [mW,hW,bW,a,b,c]
theorem ret_int {k:IntKind} {a b:Int} (h:a=b):Ending.returned (.int k a)=.returned (.int k b):=by rw [h]
theorem ret_bool {a b:Bool} (h:a=b):Ending.returned (.bool a)=.returned (.bool b):=by rw [h]
theorem not_u8 (a:Int) (h0:0<=a) (h1:a<256):bits .xor .u8 IntKind.u8.max a=255 - a:=by
 obtain ⟨n,rfl⟩:=Int.eq_ofNat_of_zero_le h0
 show IntKind.u8.wrap ((BitVec.ofInt 8 255 ^^^ BitVec.ofInt 8 (n:Int)).toNat:Int)=_
 have e:BitVec.ofInt 8 255=BitVec.allOnes 8:=by decide
 rw [e,BitVec.allOnes_xor,BitVec.toNat_not,ofInt_u8 n (by omega),IntKind.wrap_u8']
 omega
theorem not_u16 (a:Int) (h0:0<=a) (h1:a<65536):bits .xor .u16 IntKind.u16.max a=65535 - a:=by
 obtain ⟨n,rfl⟩:=Int.eq_ofNat_of_zero_le h0
 show IntKind.u16.wrap ((BitVec.ofInt 16 65535 ^^^ BitVec.ofInt 16 (n:Int)).toNat:Int)=_
 have e:BitVec.ofInt 16 65535=BitVec.allOnes 16:=by decide
 rw [e,BitVec.allOnes_xor,BitVec.toNat_not,ofInt_u16 n (by omega),IntKind.wrap_u16]
 omega
theorem not_u32 (a:Int) (h0:0<=a) (h1:a<4294967296):bits .xor .u32 IntKind.u32.max a=4294967295 - a:=by
 obtain ⟨n,rfl⟩:=Int.eq_ofNat_of_zero_le h0
 show IntKind.u32.wrap ((BitVec.ofInt 32 4294967295 ^^^ BitVec.ofInt 32 (n:Int)).toNat:Int)=_
 have e:BitVec.ofInt 32 4294967295=BitVec.allOnes 32:=by decide
 rw [e,BitVec.allOnes_xor,BitVec.toNat_not,ofInt_u32 n (by omega),IntKind.wrap_u32']
 omega
theorem not_u64 (a:Int) (h0:0<=a) (h1:a<18446744073709551616):bits .xor .u64 IntKind.u64.max a=18446744073709551615 - a:=by
 obtain ⟨n,rfl⟩:=Int.eq_ofNat_of_zero_le h0
 show IntKind.u64.wrap ((BitVec.ofInt 64 18446744073709551615 ^^^ BitVec.ofInt 64 (n:Int)).toNat:Int)=_
 have e:BitVec.ofInt 64 18446744073709551615=BitVec.allOnes 64:=by decide
 rw [e,BitVec.allOnes_xor,BitVec.toNat_not,ofInt_u64 n (by omega),IntKind.wrap_u64]
 omega
end Go.Proofs.YtadneimllbfdnaaGreatDoor.Wo
namespace Go.Proofs.YtadneimllbfdnaaGreatDoor.Wo
open Go.RowKit
set_option linter.unusedVariables false
set_option linter.unusedSimpArgs false
attribute [local go_sem] IntKind.wrap_u16 IntKind.wrap_u32' IntKind.wrap_u64 IntKind.wrap_u8'
theorem neg_8 (n:Int) (w:World) :
  Calls Tryz.prog 217 #[.int .u8 n] w fun e w'=>e=.returned (.bool (negM 128 n))/\w'=w:=by
 go_enter Tryz.func217,Tryz.ntmps217
 go_wp2
 go_ret
 exact ⟨ret_bool (by rw [not_u8 0 (by omega) (by omega)];unfold negM;rw [decide_eq_decide];omega),rfl⟩
theorem sgn_8 (a:Int) (w:World) (h0:0<=a) (h1:a<18446744073709551616) :
  Calls Tryz.prog 212 #[.int .u64 a] w fun e w'=>e=.returned (.int .u64 (sgnM 128 256 (a % 256)))/\w'=w:=by
 skip
 by_cases hn : 128<=(a % 256)
 ·
  have hb:negM 128 (a % 256)=true:=by simp [negM,hn]
  go_enter Tryz.func212,Tryz.ntmps212
  go_wp2_with (go_at_call 217;refine (neg_8 _ _).mono ?_;rintro e w' ⟨rfl,rfl⟩)
  go_ret
  exact ⟨ret_int (by
   unfold sgnM;rw [if_pos hn,not_u8 (a % 256) (by omega) (by omega),not_u64 _ (by omega) (by omega)];omega),rfl⟩
 ·
  have hb:negM 128 (a % 256)=false:=by simp [negM];omega
  go_enter Tryz.func212,Tryz.ntmps212
  go_wp2_with (go_at_call 217;refine (neg_8 _ _).mono ?_;rintro e w' ⟨rfl,rfl⟩)
  go_ret
  exact ⟨ret_int (by unfold sgnM;rw [if_neg (by omega)];(try omega)),rfl⟩
set_option maxRecDepth 100000 in
theorem len_8 (w:World):Calls Tryz.prog 162 #[.int .u64 (256 - 1)] w fun e w'=>e=.returned (.int .i64 8)/\w'=w:=by
 go_enter Tryz.func162,Tryz.ntmps162
 go_wp2
 go_ret
 exact ⟨ret_int (by decide +kernel),rfl⟩
theorem neg_16 (n:Int) (w:World) :
  Calls Tryz.prog 218 #[.int .u16 n] w fun e w'=>e=.returned (.bool (negM 32768 n))/\w'=w:=by
 go_enter Tryz.func218,Tryz.ntmps218
 go_wp2
 go_ret
 exact ⟨ret_bool (by rw [not_u16 0 (by omega) (by omega)];unfold negM;rw [decide_eq_decide];omega),rfl⟩
theorem sgn_16 (a:Int) (w:World) (h0:0<=a) (h1:a<18446744073709551616) :
  Calls Tryz.prog 213 #[.int .u64 a] w fun e w'=>e=.returned (.int .u64 (sgnM 32768 65536 (a % 65536)))/\w'=w:=by
 skip
 by_cases hn : 32768<=(a % 65536)
 ·
  have hb:negM 32768 (a % 65536)=true:=by simp [negM,hn]
  go_enter Tryz.func213,Tryz.ntmps213
  go_wp2_with (go_at_call 218;refine (neg_16 _ _).mono ?_;rintro e w' ⟨rfl,rfl⟩)
  go_ret
  exact ⟨ret_int (by
   unfold sgnM;rw [if_pos hn,not_u16 (a % 65536) (by omega) (by omega),not_u64 _ (by omega) (by omega)];omega),rfl⟩
 ·
  have hb:negM 32768 (a % 65536)=false:=by simp [negM];omega
  go_enter Tryz.func213,Tryz.ntmps213
  go_wp2_with (go_at_call 218;refine (neg_16 _ _).mono ?_;rintro e w' ⟨rfl,rfl⟩)
  go_ret
  exact ⟨ret_int (by unfold sgnM;rw [if_neg (by omega)];(try omega)),rfl⟩
set_option maxRecDepth 100000 in
theorem len_16 (w:World):Calls Tryz.prog 162 #[.int .u64 (65536 - 1)] w fun e w'=>e=.returned (.int .i64 16)/\w'=w:=by
 go_enter Tryz.func162,Tryz.ntmps162
 go_wp2
 go_ret
 exact ⟨ret_int (by decide +kernel),rfl⟩
theorem neg_32 (n:Int) (w:World) :
  Calls Tryz.prog 219 #[.int .u32 n] w fun e w'=>e=.returned (.bool (negM 2147483648 n))/\w'=w:=by
 go_enter Tryz.func219,Tryz.ntmps219
 go_wp2
 go_ret
 exact ⟨ret_bool (by rw [not_u32 0 (by omega) (by omega)];unfold negM;rw [decide_eq_decide];omega),rfl⟩
theorem sgn_32 (a:Int) (w:World) (h0:0<=a) (h1:a<18446744073709551616) :
  Calls Tryz.prog 214 #[.int .u64 a] w fun e w'=>e=.returned (.int .u64 (sgnM 2147483648 4294967296 (a % 4294967296)))/\w'=w:=by
 skip
 by_cases hn : 2147483648<=(a % 4294967296)
 ·
  have hb:negM 2147483648 (a % 4294967296)=true:=by simp [negM,hn]
  go_enter Tryz.func214,Tryz.ntmps214
  go_wp2_with (go_at_call 219;refine (neg_32 _ _).mono ?_;rintro e w' ⟨rfl,rfl⟩)
  go_ret
  exact ⟨ret_int (by
   unfold sgnM;rw [if_pos hn,not_u32 (a % 4294967296) (by omega) (by omega),not_u64 _ (by omega) (by omega)];omega),rfl⟩
 ·
  have hb:negM 2147483648 (a % 4294967296)=false:=by simp [negM];omega
  go_enter Tryz.func214,Tryz.ntmps214
  go_wp2_with (go_at_call 219;refine (neg_32 _ _).mono ?_;rintro e w' ⟨rfl,rfl⟩)
  go_ret
  exact ⟨ret_int (by unfold sgnM;rw [if_neg (by omega)];(try omega)),rfl⟩
set_option maxRecDepth 100000 in
theorem len_32 (w:World):Calls Tryz.prog 162 #[.int .u64 (4294967296 - 1)] w fun e w'=>e=.returned (.int .i64 32)/\w'=w:=by
 go_enter Tryz.func162,Tryz.ntmps162
 go_wp2
 go_ret
 exact ⟨ret_int (by decide +kernel),rfl⟩
theorem neg_64 (n:Int) (w:World) :
  Calls Tryz.prog 220 #[.int .u64 n] w fun e w'=>e=.returned (.bool (negM 9223372036854775808 n))/\w'=w:=by
 go_enter Tryz.func220,Tryz.ntmps220
 go_wp2
 go_ret
 exact ⟨ret_bool (by rw [not_u64 0 (by omega) (by omega)];unfold negM;rw [decide_eq_decide];omega),rfl⟩
theorem sgn_64 (a:Int) (w:World) (h0:0<=a) (h1:a<18446744073709551616) :
  Calls Tryz.prog 215 #[.int .u64 a] w fun e w'=>e=.returned (.int .u64 (sgnM 9223372036854775808 18446744073709551616 (a % 18446744073709551616)))/\w'=w:=by
 rw [show a % 18446744073709551616 = a from by omega]
 by_cases hn : 9223372036854775808<=a
 ·
  have hb:negM 9223372036854775808 a=true:=by simp [negM,hn]
  go_enter Tryz.func215,Tryz.ntmps215
  go_wp2_with (go_at_call 220;refine (neg_64 _ _).mono ?_;rintro e w' ⟨rfl,rfl⟩)
  go_ret
  exact ⟨ret_int (by
   unfold sgnM;rw [if_pos hn,not_u64 a (by omega) (by omega),not_u64 _ (by omega) (by omega)];omega),rfl⟩
 ·
  have hb:negM 9223372036854775808 a=false:=by simp [negM];omega
  go_enter Tryz.func215,Tryz.ntmps215
  go_wp2_with (go_at_call 220;refine (neg_64 _ _).mono ?_;rintro e w' ⟨rfl,rfl⟩)
  go_ret
  exact ⟨ret_int (by unfold sgnM;rw [if_neg (by omega)];(try omega)),rfl⟩
set_option maxRecDepth 100000 in
theorem len_64 (w:World):Calls Tryz.prog 162 #[.int .u64 (18446744073709551616 - 1)] w fun e w'=>e=.returned (.int .i64 64)/\w'=w:=by
 go_enter Tryz.func162,Tryz.ntmps162
 go_wp2
 go_ret
 exact ⟨ret_int (by decide +kernel),rfl⟩
theorem pk1_8 (f8 f16 f32 f64:Value) (w:World) :
  Calls Tryz.prog 211 #[.int .i64 8,f8,f16,f32,f64] w fun e w'=>e=.returned f8/\w'=w:=by
 go_enter Tryz.func211,Tryz.ntmps211
 go_wp2
 go_ret
 exact ⟨rfl,rfl⟩
theorem pk1_16 (f8 f16 f32 f64:Value) (w:World) :
  Calls Tryz.prog 211 #[.int .i64 16,f8,f16,f32,f64] w fun e w'=>e=.returned f16/\w'=w:=by
 go_enter Tryz.func211,Tryz.ntmps211
 go_wp2
 go_ret
 exact ⟨rfl,rfl⟩
theorem pk1_32 (f8 f16 f32 f64:Value) (w:World) :
  Calls Tryz.prog 211 #[.int .i64 32,f8,f16,f32,f64] w fun e w'=>e=.returned f32/\w'=w:=by
 go_enter Tryz.func211,Tryz.ntmps211
 go_wp2
 go_ret
 exact ⟨rfl,rfl⟩
theorem pk1_64 (width:Int) (f8 f16 f32 f64:Value) (w:World) (a:(width == 8)=false) (b:(width == 16)=false) (c:(width == 32)=false) :
  Calls Tryz.prog 211 #[.int .i64 width,f8,f16,f32,f64] w fun e w'=>e=.returned f64/\w'=w:=by
 go_enter Tryz.func211,Tryz.ntmps211
 go_wp2
 go_ret
 exact ⟨rfl,rfl⟩
theorem Sign_any (a width:Int) (w:World) (h0:0<=a) (h1:a<18446744073709551616) :
  Calls Tryz.prog 201 #[.int .u64 a,.int .i64 width] w fun e w'=>e=.returned (.int .u64 (sgnW width a))/\w'=w:=by
 rcases wide_cases width with rfl | rfl | rfl | ⟨n8,n16,n32⟩
 ·
  have hv:sgnW 8 a=sgnM 128 256 (a % 256):=rfl
  rw [hv]
  clear hv
  go_enter Tryz.func201,Tryz.ntmps201
  go_wp2_with (first | (go_at_call 211;refine (pk1_8 _ _ _ _ _).mono ?_;rintro e w' ⟨rfl,rfl⟩) | (go_at_call 212;refine (sgn_8 _ _ (by omega) (by omega)).mono ?_;rintro e w' ⟨rfl,rfl⟩))
  go_ret
  exact ⟨rfl,rfl⟩
 ·
  have hv:sgnW 16 a=sgnM 32768 65536 (a % 65536):=rfl
  rw [hv]
  clear hv
  go_enter Tryz.func201,Tryz.ntmps201
  go_wp2_with (first | (go_at_call 211;refine (pk1_16 _ _ _ _ _).mono ?_;rintro e w' ⟨rfl,rfl⟩) | (go_at_call 213;refine (sgn_16 _ _ (by omega) (by omega)).mono ?_;rintro e w' ⟨rfl,rfl⟩))
  go_ret
  exact ⟨rfl,rfl⟩
 ·
  have hv:sgnW 32 a=sgnM 2147483648 4294967296 (a % 4294967296):=rfl
  rw [hv]
  clear hv
  go_enter Tryz.func201,Tryz.ntmps201
  go_wp2_with (first | (go_at_call 211;refine (pk1_32 _ _ _ _ _).mono ?_;rintro e w' ⟨rfl,rfl⟩) | (go_at_call 214;refine (sgn_32 _ _ (by omega) (by omega)).mono ?_;rintro e w' ⟨rfl,rfl⟩))
  go_ret
  exact ⟨rfl,rfl⟩
 ·
  have hv:sgnW width a=sgnM 9223372036854775808 18446744073709551616 (a % 18446744073709551616):=by unfold sgnW;rw [(W64 n8 n16 n32).1,(W64 n8 n16 n32).2.1]
  have g8:(width == 8)=false:=by simp [n8]
  have g16:(width == 16)=false:=by simp [n16]
  have g32:(width == 32)=false:=by simp [n32]
  rw [hv]
  clear hv n8 n16 n32
  go_enter Tryz.func201,Tryz.ntmps201
  go_wp2_with (first | (go_at_call 211;refine (pk1_64 _ _ _ _ _ _ (by assumption) (by assumption) (by assumption)).mono ?_;rintro e w' ⟨rfl,rfl⟩) | (go_at_call 215;refine (sgn_64 _ _ (by omega) (by omega)).mono ?_;rintro e w' ⟨rfl,rfl⟩))
  go_ret
  exact ⟨rfl,rfl⟩
theorem Neg_any (a:Int) (w:World) :
  Calls Tryz.prog 200 #[.int .u64 a] w fun e w'=>e=.returned (.int .u64 (negW a))/\w'=w:=by
 go_enter Tryz.func200,Tryz.ntmps200
 go_wp2
 go_ret
 exact ⟨rfl,rfl⟩
end Go.Proofs.YtadneimllbfdnaaGreatDoor.Wo
