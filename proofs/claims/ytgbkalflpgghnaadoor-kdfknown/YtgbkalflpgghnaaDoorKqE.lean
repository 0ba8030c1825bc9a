import Derived.Test.YtgbkalflpgghnaaDoorKqDA
import Derived.Test.YtgbkalflpgghnaaDoorKqDB
import Derived.Test.YtgbkalflpgghnaaDoorKqDC
import Derived.Test.YtgbkalflpgghnaaDoorKqDD
import Derived.Test.YtgbkalflpgghnaaDoorPasP
namespace Go.Proofs.YtgbkalflpgghnaaDoor

def kI : W8 := ⟨1134996651, 847892506, 3820032717, 870488681, 1988942241, 2942149871, 1526971690, 1489085904⟩
def kO : W8 := ⟨3371823336, 1936184158, 3974895345, 593181112, 722759030, 2151920975, 3169419404, 2104298203⟩
theorem kI_OK : kI.OK := ⟨by decide, by decide, by decide, by decide, by decide, by decide, by decide, by decide⟩
theorem kO_OK : kO.OK := ⟨by decide, by decide, by decide, by decide, by decide, by decide, by decide, by decide⟩
def kv1_0 : W8 := ⟨85890139, 1142249542, 3734865819, 2349215470, 526370543, 937639050, 2397087600, 3562793178⟩
theorem kv1_0_OK : kv1_0.OK := ⟨by decide, by decide, by decide, by decide, by decide, by decide, by decide, by decide⟩
def kx1_0 : W8 := ⟨85890139, 1142249542, 3734865819, 2349215470, 526370543, 937639050, 2397087600, 3562793178⟩
def kv1_1 : W8 := ⟨3593863774, 2187321964, 3443579608, 4089436516, 3581250194, 3774574571, 827966589, 2813879159⟩
theorem kv1_1_OK : kv1_1.OK := ⟨by decide, by decide, by decide, by decide, by decide, by decide, by decide, by decide⟩
def kx1_1 : W8 := ⟨1603451481, 3558427714, 532578593, 905150532, 2923801974, 2529767918, 2249965412, 51981044⟩
def kv1_2 : W8 := ⟨1827225500, 3963630111, 599866725, 236634737, 2399412701, 1195071649, 962849077, 2837486335⟩
theorem kv1_2_OK : kv1_2.OK := ⟨by decide, by decide, by decide, by decide, by decide, by decide, by decide, by decide⟩
def kx1_2 : W8 := ⟨492604309, 2833295190, 2734955543, 2386968246, 1524953738, 715822654, 913457978, 1511147066⟩
def kv1_3 : W8 := ⟨2717230980, 1140765888, 2357399012, 330999850, 2434837046, 2384398945, 682244423, 3584319324⟩
theorem kv1_3_OK : kv1_3.OK := ⟨by decide, by decide, by decide, by decide, by decide, by decide, by decide, by decide⟩
def kx1_3 : W8 := ⟨2993169961, 3663750551, 2220401180, 3279862164, 143214233, 3744740996, 2159396218, 2743335294⟩
def kv1_4 : W8 := ⟨2901556837, 796335398, 937850944, 3922592384, 179095826, 1355017454, 670836492, 531026715⟩
theorem kv1_4_OK : kv1_4.OK := ⟨by decide, by decide, by decide, by decide, by decide, by decide, by decide, by decide⟩
def kx1_4 : W8 := ⟨546437231, 2145163529, 817350054, 1593198716, 2486869213, 1051641674, 4035389619, 3956590826⟩
def kv1_5 : W8 := ⟨838656214, 50777958, 3388457551, 1250523169, 1465423319, 1926009854, 737735517, 1607246906⟩
theorem kv1_5_OK : kv1_5.OK := ⟨by decide, by decide, by decide, by decide, by decide, by decide, by decide, by decide⟩
def kx1_5 : W8 := ⟨1960197354, 2932305518, 3722473199, 2709886495, 1511215241, 352590354, 2034183925, 2708337983⟩
def kv1_6 : W8 := ⟨669867405, 437817198, 3642647705, 1388549635, 1438150577, 1708340043, 3991699626, 3947326294⟩
theorem kv1_6_OK : kv1_6.OK := ⟨by decide, by decide, by decide, by decide, by decide, by decide, by decide, by decide⟩
def kx1_6 : W8 := ⟨2789161642, 1969305062, 715305175, 262429266, 37937380, 2885063992, 3306338516, 3336158422⟩
def kv1_7 : W8 := ⟨1094928125, 2237439967, 480809922, 1998269821, 1716309505, 3756841588, 3877667173, 4190370602⟩
theorem kv1_7_OK : kv1_7.OK := ⟨by decide, by decide, by decide, by decide, by decide, by decide, by decide, by decide⟩
def kx1_7 : W8 := ⟨2265705444, 1223121867, 2123546822, 2592834642, 1581756344, 2793230746, 1517767023, 3614218803⟩
def kv1_8 : W8 := ⟨2982497925, 1584254822, 1058369899, 479873225, 2494759945, 2225763825, 2199555360, 3306753887⟩
theorem kv1_8_OK : kv1_8.OK := ⟨by decide, by decide, by decide, by decide, by decide, by decide, by decide, by decide⟩
def kx1_8 : W8 := ⟨3518494879, 4117695153, 440814128, 3242112952, 440742013, 301770741, 3486342051, 2492720419⟩
def kv1_9 : W8 := ⟨1580110864, 1368271292, 3752332381, 1288530136, 2972958090, 782929438, 2306802213, 548286973⟩
theorem kv1_9_OK : kv1_9.OK := ⟨by decide, by decide, by decide, by decide, by decide, by decide, by decide, by decide⟩
def kx1_9 : W8 := ⟨114751049, 60088678, 3225906173, 4239452890, 1327573781, 3772386961, 4257573738, 1835772344⟩
def kv1_10 : W8 := ⟨2822037238, 2166619593, 1254103043, 3577447578, 1883728009, 830888247, 2900180442, 2634041010⟩
theorem kv1_10_OK : kv1_10.OK := ⟨by decide, by decide, by decide, by decide, by decide, by decide, by decide, by decide⟩
def kx1_10 : W8 := ⟨91142660, 3336378483, 1596771615, 1654250037, 3782223087, 612845389, 576695581, 2021572506⟩
def kv1_11 : W8 := ⟨555084586, 1267126250, 1669953411, 1295972182, 1624834193, 2427600134, 3510222504, 671319436⟩
theorem kv1_11_OK : kv1_11.OK := ⟨by decide, by decide, by decide, by decide, by decide, by decide, by decide, by decide⟩
def kx1_11 : W8 := ⟨351765922, 127184502, 2230102134, 235031937, 955147037, 108602432, 1423969906, 1710579786⟩
def kv1_12 : W8 := ⟨3725469454, 2990327895, 129758392, 3808180088, 472284368, 4271650606, 604711682, 2550814673⟩
theorem kv1_12_OK : kv1_12.OK := ⟨by decide, by decide, by decide, by decide, by decide, by decide, by decide, by decide⟩
def kx1_12 : W8 := ⟨3053223290, 2103956556, 2016459956, 1011474650, 258339204, 3979470327, 3478453878, 4276324861⟩
def kv1_13 : W8 := ⟨4070564890, 462858373, 2777668139, 1763213385, 2322437983, 1044103665, 2879404542, 923724225⟩
theorem kv1_13_OK : kv1_13.OK := ⟨by decide, by decide, by decide, by decide, by decide, by decide, by decide, by decide⟩
def kx1_13 : W8 := ⟨323626696, 3176105473, 312610039, 2545242701, 3748933824, 499254406, 3281470206, 1636127395⟩
def kv1_14 : W8 := ⟨2380918518, 1570005714, 385668852, 3700068255, 1344287105, 328788615, 2394712976, 3975420029⟩
theorem kv1_14_OK : kv1_14.OK := ⟨by decide, by decide, by decide, by decide, by decide, by decide, by decide, by decide⟩
def kx1_14 : W8 := ⟨1176908511, 2990124432, 2836696874, 783560567, 1794709372, 4107187071, 3359497741, 152920348⟩
def kv1_15 : W8 := ⟨3482895231, 2275066846, 3201304387, 2661698567, 2943828983, 1253818131, 1405969345, 1050241298⟩
theorem kv1_15_OK : kv1_15.OK := ⟨by decide, by decide, by decide, by decide, by decide, by decide, by decide, by decide⟩
def kx1_15 : W8 := ⟨3340846539, 266112026, 2650638117, 3111385901, 2671175669, 889805330, 2132305319, 2476180764⟩
def kv1_16 : W8 := ⟨1664791551, 642535415, 2443448861, 3842282081, 169784309, 1029071315, 1137914048, 3017894542⟩
def kx1_16 : W8 := ⟨881625563, 3419613999, 853021880, 292455631, 722941054, 3155689496, 474884639, 3101512673⟩
theorem it1_0 : it kI kO 256 kv1_0 kx1_0 = (kv1_1, kx1_1) := it_of kI kO kv1_0 kx1_0 _ _ kI_OK kO_OK kv1_0_OK 256 chunk1_0
theorem it1_1 : it kI kO 256 kv1_1 kx1_1 = (kv1_2, kx1_2) := it_of kI kO kv1_1 kx1_1 _ _ kI_OK kO_OK kv1_1_OK 256 chunk1_1
theorem it1_2 : it kI kO 256 kv1_2 kx1_2 = (kv1_3, kx1_3) := it_of kI kO kv1_2 kx1_2 _ _ kI_OK kO_OK kv1_2_OK 256 chunk1_2
theorem it1_3 : it kI kO 256 kv1_3 kx1_3 = (kv1_4, kx1_4) := it_of kI kO kv1_3 kx1_3 _ _ kI_OK kO_OK kv1_3_OK 256 chunk1_3
theorem it1_4 : it kI kO 256 kv1_4 kx1_4 = (kv1_5, kx1_5) := it_of kI kO kv1_4 kx1_4 _ _ kI_OK kO_OK kv1_4_OK 256 chunk1_4
theorem it1_5 : it kI kO 256 kv1_5 kx1_5 = (kv1_6, kx1_6) := it_of kI kO kv1_5 kx1_5 _ _ kI_OK kO_OK kv1_5_OK 256 chunk1_5
theorem it1_6 : it kI kO 256 kv1_6 kx1_6 = (kv1_7, kx1_7) := it_of kI kO kv1_6 kx1_6 _ _ kI_OK kO_OK kv1_6_OK 256 chunk1_6
theorem it1_7 : it kI kO 256 kv1_7 kx1_7 = (kv1_8, kx1_8) := it_of kI kO kv1_7 kx1_7 _ _ kI_OK kO_OK kv1_7_OK 256 chunk1_7
theorem it1_8 : it kI kO 256 kv1_8 kx1_8 = (kv1_9, kx1_9) := it_of kI kO kv1_8 kx1_8 _ _ kI_OK kO_OK kv1_8_OK 256 chunk1_8
theorem it1_9 : it kI kO 256 kv1_9 kx1_9 = (kv1_10, kx1_10) := it_of kI kO kv1_9 kx1_9 _ _ kI_OK kO_OK kv1_9_OK 256 chunk1_9
theorem it1_10 : it kI kO 256 kv1_10 kx1_10 = (kv1_11, kx1_11) := it_of kI kO kv1_10 kx1_10 _ _ kI_OK kO_OK kv1_10_OK 256 chunk1_10
theorem it1_11 : it kI kO 256 kv1_11 kx1_11 = (kv1_12, kx1_12) := it_of kI kO kv1_11 kx1_11 _ _ kI_OK kO_OK kv1_11_OK 256 chunk1_11
theorem it1_12 : it kI kO 256 kv1_12 kx1_12 = (kv1_13, kx1_13) := it_of kI kO kv1_12 kx1_12 _ _ kI_OK kO_OK kv1_12_OK 256 chunk1_12
theorem it1_13 : it kI kO 256 kv1_13 kx1_13 = (kv1_14, kx1_14) := it_of kI kO kv1_13 kx1_13 _ _ kI_OK kO_OK kv1_13_OK 256 chunk1_13
theorem it1_14 : it kI kO 256 kv1_14 kx1_14 = (kv1_15, kx1_15) := it_of kI kO kv1_14 kx1_14 _ _ kI_OK kO_OK kv1_14_OK 256 chunk1_14
theorem it1_15 : it kI kO 255 kv1_15 kx1_15 = (kv1_16, kx1_16) := it_of kI kO kv1_15 kx1_15 _ _ kI_OK kO_OK kv1_15_OK 255 chunk1_15
theorem all1_0 : it kI kO 256 kv1_0 kx1_0 = (kv1_1, kx1_1) := it1_0
theorem all1_1 : it kI kO 512 kv1_0 kx1_0 = (kv1_2, kx1_2) := by
  rw [show 512 = 256 + 256 from rfl, it_add, all1_0]
  exact it1_1
theorem all1_2 : it kI kO 768 kv1_0 kx1_0 = (kv1_3, kx1_3) := by
  rw [show 768 = 512 + 256 from rfl, it_add, all1_1]
  exact it1_2
theorem all1_3 : it kI kO 1024 kv1_0 kx1_0 = (kv1_4, kx1_4) := by
  rw [show 1024 = 768 + 256 from rfl, it_add, all1_2]
  exact it1_3
theorem all1_4 : it kI kO 1280 kv1_0 kx1_0 = (kv1_5, kx1_5) := by
  rw [show 1280 = 1024 + 256 from rfl, it_add, all1_3]
  exact it1_4
theorem all1_5 : it kI kO 1536 kv1_0 kx1_0 = (kv1_6, kx1_6) := by
  rw [show 1536 = 1280 + 256 from rfl, it_add, all1_4]
  exact it1_5
theorem all1_6 : it kI kO 1792 kv1_0 kx1_0 = (kv1_7, kx1_7) := by
  rw [show 1792 = 1536 + 256 from rfl, it_add, all1_5]
  exact it1_6
theorem all1_7 : it kI kO 2048 kv1_0 kx1_0 = (kv1_8, kx1_8) := by
  rw [show 2048 = 1792 + 256 from rfl, it_add, all1_6]
  exact it1_7
theorem all1_8 : it kI kO 2304 kv1_0 kx1_0 = (kv1_9, kx1_9) := by
  rw [show 2304 = 2048 + 256 from rfl, it_add, all1_7]
  exact it1_8
theorem all1_9 : it kI kO 2560 kv1_0 kx1_0 = (kv1_10, kx1_10) := by
  rw [show 2560 = 2304 + 256 from rfl, it_add, all1_8]
  exact it1_9
theorem all1_10 : it kI kO 2816 kv1_0 kx1_0 = (kv1_11, kx1_11) := by
  rw [show 2816 = 2560 + 256 from rfl, it_add, all1_9]
  exact it1_10
theorem all1_11 : it kI kO 3072 kv1_0 kx1_0 = (kv1_12, kx1_12) := by
  rw [show 3072 = 2816 + 256 from rfl, it_add, all1_10]
  exact it1_11
theorem all1_12 : it kI kO 3328 kv1_0 kx1_0 = (kv1_13, kx1_13) := by
  rw [show 3328 = 3072 + 256 from rfl, it_add, all1_11]
  exact it1_12
theorem all1_13 : it kI kO 3584 kv1_0 kx1_0 = (kv1_14, kx1_14) := by
  rw [show 3584 = 3328 + 256 from rfl, it_add, all1_12]
  exact it1_13
theorem all1_14 : it kI kO 3840 kv1_0 kx1_0 = (kv1_15, kx1_15) := by
  rw [show 3840 = 3584 + 256 from rfl, it_add, all1_13]
  exact it1_14
theorem all1_15 : it kI kO 4095 kv1_0 kx1_0 = (kv1_16, kx1_16) := by
  rw [show 4095 = 3840 + 255 from rfl, it_add, all1_14]
  exact it1_15
def kv2_0 : W8 := ⟨1142755603, 388909957, 3160895088, 4127252923, 1082795336, 3517702267, 3777440002, 1735876993⟩
theorem kv2_0_OK : kv2_0.OK := ⟨by decide, by decide, by decide, by decide, by decide, by decide, by decide, by decide⟩
def kx2_0 : W8 := ⟨1142755603, 388909957, 3160895088, 4127252923, 1082795336, 3517702267, 3777440002, 1735876993⟩
def kv2_1 : W8 := ⟨3015039112, 2703658752, 2130073775, 44274292, 1758907002, 2759327971, 3495963437, 2480567755⟩
theorem kv2_1_OK : kv2_1.OK := ⟨by decide, by decide, by decide, by decide, by decide, by decide, by decide, by decide⟩
def kx2_1 : W8 := ⟨93000285, 2116171728, 2461848465, 2208335170, 1288460405, 3633693976, 2911095742, 3784380340⟩
def kv2_2 : W8 := ⟨1582329763, 4009987289, 552212003, 3914984400, 3743441434, 1044208389, 4054408107, 1028250844⟩
theorem kv2_2_OK : kv2_2.OK := ⟨by decide, by decide, by decide, by decide, by decide, by decide, by decide, by decide⟩
def kx2_2 : W8 := ⟨696534715, 2451088069, 2926228329, 648397755, 3668281277, 1596026589, 498462989, 594292245⟩
def kv2_3 : W8 := ⟨4063186426, 3096154465, 4153052749, 1721828558, 863798906, 3875861418, 1648136592, 4045954609⟩
theorem kv2_3_OK : kv2_3.OK := ⟨by decide, by decide, by decide, by decide, by decide, by decide, by decide, by decide⟩
def kx2_3 : W8 := ⟨725018526, 1918698076, 1225948465, 1647178055, 1538975257, 2226290018, 3256960100, 2675943764⟩
def kv2_4 : W8 := ⟨1648222050, 4015209546, 1046343787, 3773479647, 931994610, 3484739351, 1372511018, 2200101622⟩
theorem kv2_4_OK : kv2_4.OK := ⟨by decide, by decide, by decide, by decide, by decide, by decide, by decide, by decide⟩
def kx2_4 : W8 := ⟨3379106752, 4266786084, 322174804, 155473920, 1227000154, 2459449610, 1327878155, 1271400264⟩
def kv2_5 : W8 := ⟨3449395298, 2898691663, 3492682036, 3717988494, 4124666005, 3863295948, 3111347992, 1716610335⟩
theorem kv2_5_OK : kv2_5.OK := ⟨by decide, by decide, by decide, by decide, by decide, by decide, by decide, by decide⟩
def kx2_5 : W8 := ⟨2273433353, 1753726707, 69740048, 3458091979, 3540052395, 547306161, 1682794908, 2803031981⟩
def kv2_6 : W8 := ⟨3928930883, 4051107732, 2280219519, 4186610619, 786046944, 1446995852, 2132665935, 3033726667⟩
theorem kv2_6_OK : kv2_6.OK := ⟨by decide, by decide, by decide, by decide, by decide, by decide, by decide, by decide⟩
def kx2_6 : W8 := ⟨3264597345, 3669258238, 2040291209, 1040693911, 2118129185, 3441547296, 4006187710, 3958363617⟩
def kv2_7 : W8 := ⟨2353544066, 3942802107, 871580654, 284169947, 2538010842, 1403139183, 2733652277, 4065017153⟩
theorem kv2_7_OK : kv2_7.OK := ⟨by decide, by decide, by decide, by decide, by decide, by decide, by decide, by decide⟩
def kx2_7 : W8 := ⟨1187664116, 201063741, 3233127103, 392129826, 1777482676, 992573965, 1940705832, 1239846723⟩
def kv2_8 : W8 := ⟨3861371816, 843635778, 2330228369, 1427053833, 1947534013, 3879953627, 3716847471, 2875193629⟩
theorem kv2_8_OK : kv2_8.OK := ⟨by decide, by decide, by decide, by decide, by decide, by decide, by decide, by decide⟩
def kx2_8 : W8 := ⟨1445022778, 280937214, 3269077797, 132009363, 2954776602, 3100357995, 2518936057, 1923428431⟩
def kv2_9 : W8 := ⟨3101412638, 3866836426, 1431259354, 908716327, 3874871520, 569757668, 2709980655, 1089961809⟩
theorem kv2_9_OK : kv2_9.OK := ⟨by decide, by decide, by decide, by decide, by decide, by decide, by decide, by decide⟩
def kx2_9 : W8 := ⟨1700555993, 2911475023, 1961471140, 427622434, 867528855, 947594843, 2942255846, 418327560⟩
def kv2_10 : W8 := ⟨3854723158, 3080897790, 482011563, 1482312386, 1183961040, 1959773196, 3055635813, 358191460⟩
theorem kv2_10_OK : kv2_10.OK := ⟨by decide, by decide, by decide, by decide, by decide, by decide, by decide, by decide⟩
def kx2_10 : W8 := ⟨1625159914, 2153497842, 2941696984, 1065388681, 1875714669, 4127983468, 154016168, 957187141⟩
def kv2_11 : W8 := ⟨2114644567, 3209774986, 3441267591, 3147929949, 2734558714, 4249477610, 577307738, 3591223502⟩
theorem kv2_11_OK : kv2_11.OK := ⟨by decide, by decide, by decide, by decide, by decide, by decide, by decide, by decide⟩
def kx2_11 : W8 := ⟨1877861887, 915781345, 2574541273, 1465967344, 636392277, 2717657128, 3729717245, 262091145⟩
def kv2_12 : W8 := ⟨2187554019, 622064633, 2891727366, 2728742343, 3989671741, 4178335807, 3263305838, 2625500320⟩
theorem kv2_12_OK : kv2_12.OK := ⟨by decide, by decide, by decide, by decide, by decide, by decide, by decide, by decide⟩
def kx2_12 : W8 := ⟨3416319717, 2165782105, 3103829081, 230021408, 1625126268, 326551064, 3878369298, 1408283197⟩
def kv2_13 : W8 := ⟨3162807677, 1994789114, 75873629, 2390267324, 1102591154, 4024454344, 3862543162, 3758067341⟩
theorem kv2_13_OK : kv2_13.OK := ⟨by decide, by decide, by decide, by decide, by decide, by decide, by decide, by decide⟩
def kx2_13 : W8 := ⟨266899009, 595258295, 3969271743, 2103747454, 364649744, 3809755029, 1087992887, 2922516659⟩
def kv2_14 : W8 := ⟨2314614887, 1579826019, 3615728945, 3467360464, 968875749, 1184441475, 2603469246, 1253393510⟩
theorem kv2_14_OK : kv2_14.OK := ⟨by decide, by decide, by decide, by decide, by decide, by decide, by decide, by decide⟩
def kx2_14 : W8 := ⟨214690545, 3854514840, 73545497, 2569054361, 2487083702, 2566237400, 1459441171, 155112505⟩
def kv2_15 : W8 := ⟨1933046380, 601070175, 3485160494, 2628823116, 1129505535, 3045860737, 2004357969, 3651668276⟩
theorem kv2_15_OK : kv2_15.OK := ⟨by decide, by decide, by decide, by decide, by decide, by decide, by decide, by decide⟩
def kx2_15 : W8 := ⟨1266504544, 682660739, 2273028145, 1557446538, 1411701785, 38087442, 1731201484, 3260809875⟩
def kv2_16 : W8 := ⟨3560228615, 140060315, 3748786100, 2926341229, 765751007, 1880902830, 1630019646, 3914611267⟩
def kx2_16 : W8 := ⟨3325383052, 2108442601, 1164046952, 1616307708, 3549993976, 2517349027, 1821389829, 2261056202⟩
theorem it2_0 : it kI kO 256 kv2_0 kx2_0 = (kv2_1, kx2_1) := it_of kI kO kv2_0 kx2_0 _ _ kI_OK kO_OK kv2_0_OK 256 chunk2_0
theorem it2_1 : it kI kO 256 kv2_1 kx2_1 = (kv2_2, kx2_2) := it_of kI kO kv2_1 kx2_1 _ _ kI_OK kO_OK kv2_1_OK 256 chunk2_1
theorem it2_2 : it kI kO 256 kv2_2 kx2_2 = (kv2_3, kx2_3) := it_of kI kO kv2_2 kx2_2 _ _ kI_OK kO_OK kv2_2_OK 256 chunk2_2
theorem it2_3 : it kI kO 256 kv2_3 kx2_3 = (kv2_4, kx2_4) := it_of kI kO kv2_3 kx2_3 _ _ kI_OK kO_OK kv2_3_OK 256 chunk2_3
theorem it2_4 : it kI kO 256 kv2_4 kx2_4 = (kv2_5, kx2_5) := it_of kI kO kv2_4 kx2_4 _ _ kI_OK kO_OK kv2_4_OK 256 chunk2_4
theorem it2_5 : it kI kO 256 kv2_5 kx2_5 = (kv2_6, kx2_6) := it_of kI kO kv2_5 kx2_5 _ _ kI_OK kO_OK kv2_5_OK 256 chunk2_5
theorem it2_6 : it kI kO 256 kv2_6 kx2_6 = (kv2_7, kx2_7) := it_of kI kO kv2_6 kx2_6 _ _ kI_OK kO_OK kv2_6_OK 256 chunk2_6
theorem it2_7 : it kI kO 256 kv2_7 kx2_7 = (kv2_8, kx2_8) := it_of kI kO kv2_7 kx2_7 _ _ kI_OK kO_OK kv2_7_OK 256 chunk2_7
theorem it2_8 : it kI kO 256 kv2_8 kx2_8 = (kv2_9, kx2_9) := it_of kI kO kv2_8 kx2_8 _ _ kI_OK kO_OK kv2_8_OK 256 chunk2_8
theorem it2_9 : it kI kO 256 kv2_9 kx2_9 = (kv2_10, kx2_10) := it_of kI kO kv2_9 kx2_9 _ _ kI_OK kO_OK kv2_9_OK 256 chunk2_9
theorem it2_10 : it kI kO 256 kv2_10 kx2_10 = (kv2_11, kx2_11) := it_of kI kO kv2_10 kx2_10 _ _ kI_OK kO_OK kv2_10_OK 256 chunk2_10
theorem it2_11 : it kI kO 256 kv2_11 kx2_11 = (kv2_12, kx2_12) := it_of kI kO kv2_11 kx2_11 _ _ kI_OK kO_OK kv2_11_OK 256 chunk2_11
theorem it2_12 : it kI kO 256 kv2_12 kx2_12 = (kv2_13, kx2_13) := it_of kI kO kv2_12 kx2_12 _ _ kI_OK kO_OK kv2_12_OK 256 chunk2_12
theorem it2_13 : it kI kO 256 kv2_13 kx2_13 = (kv2_14, kx2_14) := it_of kI kO kv2_13 kx2_13 _ _ kI_OK kO_OK kv2_13_OK 256 chunk2_13
theorem it2_14 : it kI kO 256 kv2_14 kx2_14 = (kv2_15, kx2_15) := it_of kI kO kv2_14 kx2_14 _ _ kI_OK kO_OK kv2_14_OK 256 chunk2_14
theorem it2_15 : it kI kO 255 kv2_15 kx2_15 = (kv2_16, kx2_16) := it_of kI kO kv2_15 kx2_15 _ _ kI_OK kO_OK kv2_15_OK 255 chunk2_15
theorem all2_0 : it kI kO 256 kv2_0 kx2_0 = (kv2_1, kx2_1) := it2_0
theorem all2_1 : it kI kO 512 kv2_0 kx2_0 = (kv2_2, kx2_2) := by
  rw [show 512 = 256 + 256 from rfl, it_add, all2_0]
  exact it2_1
theorem all2_2 : it kI kO 768 kv2_0 kx2_0 = (kv2_3, kx2_3) := by
  rw [show 768 = 512 + 256 from rfl, it_add, all2_1]
  exact it2_2
theorem all2_3 : it kI kO 1024 kv2_0 kx2_0 = (kv2_4, kx2_4) := by
  rw [show 1024 = 768 + 256 from rfl, it_add, all2_2]
  exact it2_3
theorem all2_4 : it kI kO 1280 kv2_0 kx2_0 = (kv2_5, kx2_5) := by
  rw [show 1280 = 1024 + 256 from rfl, it_add, all2_3]
  exact it2_4
theorem all2_5 : it kI kO 1536 kv2_0 kx2_0 = (kv2_6, kx2_6) := by
  rw [show 1536 = 1280 + 256 from rfl, it_add, all2_4]
  exact it2_5
theorem all2_6 : it kI kO 1792 kv2_0 kx2_0 = (kv2_7, kx2_7) := by
  rw [show 1792 = 1536 + 256 from rfl, it_add, all2_5]
  exact it2_6
theorem all2_7 : it kI kO 2048 kv2_0 kx2_0 = (kv2_8, kx2_8) := by
  rw [show 2048 = 1792 + 256 from rfl, it_add, all2_6]
  exact it2_7
theorem all2_8 : it kI kO 2304 kv2_0 kx2_0 = (kv2_9, kx2_9) := by
  rw [show 2304 = 2048 + 256 from rfl, it_add, all2_7]
  exact it2_8
theorem all2_9 : it kI kO 2560 kv2_0 kx2_0 = (kv2_10, kx2_10) := by
  rw [show 2560 = 2304 + 256 from rfl, it_add, all2_8]
  exact it2_9
theorem all2_10 : it kI kO 2816 kv2_0 kx2_0 = (kv2_11, kx2_11) := by
  rw [show 2816 = 2560 + 256 from rfl, it_add, all2_9]
  exact it2_10
theorem all2_11 : it kI kO 3072 kv2_0 kx2_0 = (kv2_12, kx2_12) := by
  rw [show 3072 = 2816 + 256 from rfl, it_add, all2_10]
  exact it2_11
theorem all2_12 : it kI kO 3328 kv2_0 kx2_0 = (kv2_13, kx2_13) := by
  rw [show 3328 = 3072 + 256 from rfl, it_add, all2_11]
  exact it2_12
theorem all2_13 : it kI kO 3584 kv2_0 kx2_0 = (kv2_14, kx2_14) := by
  rw [show 3584 = 3328 + 256 from rfl, it_add, all2_12]
  exact it2_13
theorem all2_14 : it kI kO 3840 kv2_0 kx2_0 = (kv2_15, kx2_15) := by
  rw [show 3840 = 3584 + 256 from rfl, it_add, all2_13]
  exact it2_14
theorem all2_15 : it kI kO 4095 kv2_0 kx2_0 = (kv2_16, kx2_16) := by
  rw [show 4095 = 3840 + 255 from rfl, it_add, all2_14]
  exact it2_15

theorem ofNat_xor (a b : Nat) : UInt8.ofNat (a ^^^ b) = UInt8.ofNat a ^^^ UInt8.ofNat b := by
  apply UInt8.toNat_inj.1
  rw [UInt8.toNat_xor, UInt8.toNat_ofNat', UInt8.toNat_ofNat', UInt8.toNat_ofNat']
  exact Nat.xor_mod_two_pow (n := 8)
theorem be4_xor (x y : Nat) : be4 (x ^^^ y) = xorL (be4 x) (be4 y) := by
  have e24 : (x ^^^ y) / 16777216 = x / 16777216 ^^^ y / 16777216 := Nat.xor_div_two_pow (n := 24)
  have e16 : (x ^^^ y) / 65536 = x / 65536 ^^^ y / 65536 := Nat.xor_div_two_pow (n := 16)
  have e8 : (x ^^^ y) / 256 = x / 256 ^^^ y / 256 := Nat.xor_div_two_pow (n := 8)
  unfold be4 xorL
  rw [e24, e16, e8, ofNat_xor, ofNat_xor, ofNat_xor, ofNat_xor]
  rfl
theorem wtext_xor (s t : W8) : wtext (s.xor t) = xorL (wtext s) (wtext t) := by
  show be4s [s.a ^^^ t.a, s.b ^^^ t.b, s.c ^^^ t.c, s.d ^^^ t.d, s.e ^^^ t.e, s.f ^^^ t.f, s.g ^^^ t.g, s.h ^^^ t.h] = xorL (be4s [s.a, s.b, s.c, s.d, s.e, s.f, s.g, s.h]) (be4s [t.a, t.b, t.c, t.d, t.e, t.f, t.g, t.h])
  simp only [be4s, be4_xor]
  rfl

theorem hmac_link (key : List UInt8) (I O v : W8) (hI : I = mix first (innerL key)) (hO : O = mix first (outerL key)) : hmacL key (wtext v) = wtext (stepW I O v) := by
  unfold hmacL
  rw [sha_two _ _ (innerL_length key) (wtext_len v), sha_two _ _ (outerL_length key) (wtext_len _), ← hI, ← hO]
  rfl
theorem pas_it (key f : List UInt8) (I O : W8) (hI : I = mix first (innerL key)) (hO : O = mix first (outerL key)) : ∀ (n r : Nat) (v x : W8), pasU key f r = wtext v → pasF key f r = wtext x → pasF key f (r + n) = wtext (it I O n v x).2
  | 0, _, _, _, _, h => h
  | n + 1, r, v, x, hu, hf => by
    have h1 : pasU key f (r + 1) = wtext (stepW I O v) := by rw [pasU, hu, hmac_link key I O v hI hO]
    have h2 : pasF key f (r + 1) = wtext (x.xor (stepW I O v)) := by rw [pasF, hf, h1, wtext_xor]
    have h := pas_it key f I O hI hO n (r + 1) _ _ h1 h2
    rw [show r + (n + 1) = r + 1 + n by omega]
    exact h

def longKey : List UInt8 := [112, 97, 115, 115, 119, 111, 114, 100, 80, 65, 83, 83, 87, 79, 82, 68, 112, 97, 115, 115, 119, 111, 114, 100]
def longSalt : List UInt8 := [115, 97, 108, 116, 83, 65, 76, 84, 115, 97, 108, 116, 83, 65, 76, 84, 115, 97, 108, 116, 83, 65, 76, 84, 115, 97, 108, 116, 83, 65, 76, 84, 115, 97, 108, 116]
theorem kI_eq : kI = mix first (innerL longKey) := by kernel_rfl
theorem kO_eq : kO = mix first (outerL longKey) := by kernel_rfl
theorem start1 : hmacL longKey (longSalt ++ [0, 0, 0, UInt8.ofNat (0 + 1)]) = wtext kv1_0 := by kernel_rfl
theorem start2 : hmacL longKey (longSalt ++ [0, 0, 0, UInt8.ofNat (1 + 1)]) = wtext kv2_0 := by kernel_rfl
theorem pas1 : pasF longKey (longSalt ++ [0, 0, 0, UInt8.ofNat (0 + 1)]) 4095 = wtext kx1_16 := by
  have h := pas_it longKey _ kI kO kI_eq kO_eq 4095 0 kv1_0 kv1_0 start1 start1
  rw [Nat.zero_add] at h
  rw [h, show it kI kO 4095 kv1_0 kv1_0 = _ from all1_15]
theorem pas2 : pasF longKey (longSalt ++ [0, 0, 0, UInt8.ofNat (1 + 1)]) 4095 = wtext kx2_16 := by
  have h := pas_it longKey _ kI kO kI_eq kO_eq 4095 0 kv2_0 kv2_0 start2 start2
  rw [Nat.zero_add] at h
  rw [h, show it kI kO 4095 kv2_0 kv2_0 = _ from all2_15]
theorem long_pas : pasL longKey longSalt 4095 40 = (wtext kx1_16 ++ wtext kx2_16).take 40 := by
  show (pasAll longKey longSalt 4095 2).take 40 = _
  rw [pasAll, pasAll, pasAll, pas1, pas2]
  rfl

end Go.Proofs.YtgbkalflpgghnaaDoor
